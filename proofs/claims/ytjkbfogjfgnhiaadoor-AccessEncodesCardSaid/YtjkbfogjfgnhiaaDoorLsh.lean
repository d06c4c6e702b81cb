/-
  The walk of the law AccessShows.
-/
import Derived.Test.YtjkbfogjfgnhiaaDoorRtm
namespace Go.Proofs.YtjkbfogjfgnhiaaDoor
set_option linter.unusedVariables false
set_option linter.unusedSimpArgs false
open Go.RowKit

theorem ba_tl (a b : ByteArray) : a.toList = b.toList ↔ a = b := by
  rw [ByteArray.toList_eq, ByteArray.toList_eq]
  constructor
  · intro h; exact ByteArray.ext (Array.toList_inj.1 h)
  · intro h; rw [h]
theorem ba_tl0 (a : ByteArray) : a.toList = [] ↔ a = ⟨#[]⟩ := by
  rw [ByteArray.toList_eq]
  constructor
  · intro h; exact ByteArray.ext (Array.toList_inj.1 h)
  · intro h; rw [h]
theorem ba_inj (l m : List UInt8) : (⟨l.toArray⟩ : ByteArray) = ⟨m.toArray⟩ ↔ l = m := by
  constructor
  · intro h
    have := congrArg (fun z : ByteArray => z.data.toList) h
    simpa using this
  · intro h; rw [h]

set_option maxRecDepth 100000 in
set_option maxHeartbeats 6400000 in
theorem law_shows (a b : Cn) (va vb : Value) (w : World) (hka : KL w w.heap.size va a.kids) (hkb : KL w w.heap.size vb b.kids) (hT : Tb w) :
    Calls Tryd.prog 13 #[.agg #[.int .i64 a.op, .int .i64 a.n, va], .agg #[.int .i64 b.op, .int .i64 b.n, vb]] w fun e w' => e = .returned (.bool true) ∧ Below w.heap.size w w' := by
  obtain ⟨A1, c1, rfl, _, _, _⟩ := id hka
  obtain ⟨A2, c2, rfl, _, _, _⟩ := id hkb
  have hb0 := alloc2_below w (bx a.op a.n A1 a.kids.length c1) (bx b.op b.n A2 b.kids.length c2)
  have hsz0 : ((w.alloc (bx a.op a.n A1 a.kids.length c1)).alloc (bx b.op b.n A2 b.kids.length c2)).heap.size = w.heap.size + 1 + 1 := by rw [alloc_size, alloc_size]
  have hn0 := (Below.heap_alloc (w.alloc (bx a.op a.n A1 a.kids.length c1)) (bx b.op b.n A2 b.kids.length c2) w.heap.size (by rw [alloc_size]; omega)).trans (heap_alloc_new w (bx a.op a.n A1 a.kids.length c1))
  have hn1 := heap_alloc_new (w.alloc (bx a.op a.n A1 a.kids.length c1)) (bx b.op b.n A2 b.kids.length c2)
  rw [alloc_size w] at hn1
  have hk2 := KL.two _ a b A1 A2 c1 c2 (hka.on hb0) (hkb.on hb0)
  have hb3 := alloc_below ((w.alloc (bx a.op a.n A1 a.kids.length c1)).alloc (bx b.op b.n A2 b.kids.length c2)) (bx2 a b A1 c1 A2 c2)
  have hs3 := alloc_size ((w.alloc (bx a.op a.n A1 a.kids.length c1)).alloc (bx b.op b.n A2 b.kids.length c2)) (bx2 a b A1 c1 A2 c2)
  have hm0 := (hb3.block w.heap.size (by rw [hsz0]; omega)).trans hn0
  have hm1 := (hb3.block (w.heap.size + 1) (by rw [hsz0]; omega)).trans hn1
  have hb03 := hb0.trans (hb3.mono hb0.size)
  have hf := few_any [a, b] _ _ hk2
  rw [hsz0] at hf hs3
  have HF := Lib.hid hf
  have HFE : Hid (([a, b] : List Cn).all fewB = (fewB a && fewB b)) := by show _ = _; simp
  rw [HFE.out] at HF
  have HFA := Lib.hid (few_cnt a)
  have HFB := Lib.hid (few_cnt b)
  have HB3 := Lib.hid hb03
  have HM0 := Lib.hid hm0
  have HM1 := Lib.hid hm1
  have HL0 := Lib.hid (show w.heap.size + 1 < (((w.alloc (bx a.op a.n A1 a.kids.length c1)).alloc (bx b.op b.n A2 b.kids.length c2)).alloc (bx2 a b A1 c1 A2 c2)).heap.size by rw [hs3]; omega)
  have HP1 := Lib.hid fun (W : World) (hW : Below w.heap.size w W) (hc : a.cnt ≤ 400) => ptxt_any a _ W (hka.on hW) (hT.on hW) hc
  have HP2 := Lib.hid fun (W : World) (hW : Below w.heap.size w W) (hc : b.cnt ≤ 400) => ptxt_any b _ W (hkb.on hW) (hT.on hW) hc
  have HR1 := Lib.hid fun (W : World) (hW : Below w.heap.size w W) (hc : a.cnt ≤ 400) => rtxt_any a _ W (hka.on hW) hc
  have HR2 := Lib.hid fun (W : World) (hW : Below w.heap.size w W) (hc : b.cnt ≤ 400) => rtxt_any b _ W (hkb.on hW) hc
  have HSC := Lib.hid fun (W : World) (hW : Below w.heap.size w W) => rsam_any (a.dep + 1) a (by omega) b _ _ W (hka.on hW) (hkb.on hW)
  have HA := Lib.hid fun (W : World) (hW : Below w.heap.size w W) => works_any W (hT.on hW)
  have hE1 := ba_inj (txtM a) []
  have hE2 := ba_inj (txtM b) []
  have hE3 := ba_inj (txtM a) (txtM b)
  have hSM := @txtM_sam a b
  clear hka hkb hT hb0 hsz0 hn0 hn1 hk2 hb3 hs3 hm0 hm1 hb03 hf HFE
  generalize (⟨(txtM a).toArray⟩ : ByteArray) = T1 at *
  generalize (⟨(txtM b).toArray⟩ : ByteArray) = T2 at *
  generalize hfa : fewB a = FA at *
  generalize hfb : fewB b = FB at *
  have HFAE := Lib.hid hfa
  have HFBE := Lib.hid hfb
  clear hfa hfb
  obtain ⟨F, hF⟩ : ∃ F, F = (FA && FB) := ⟨_, rfl⟩
  rw [← hF] at HF
  have HFF := Lib.hid hF
  clear hF
  have HSM := Lib.hid hSM
  have HE1 := Lib.hid hE1
  have HE2 := Lib.hid hE2
  have HE3 := Lib.hid hE3
  clear hSM hE1 hE2 hE3
  go_enter Tryd.func13, Tryd.ntmps13
  go_wp2_with fail
  refine HF.out.mono ?_
  rintro e w1 ⟨rfl, hb1⟩
  have HB1 := Lib.hid (HB3.out.trans (hb1.mono HB3.out.size))
  cases F with
  | false =>
    clear hb1
    go_wp2_with fail
    refine (HA.out _ HB1.out).mono ?_
    rintro e w2 ⟨rfl, hb2⟩
    go_wp2_with fail
    go_ret
    exact ⟨rfl, HB1.out.trans (hb2.mono HB1.out.size)⟩
  | true =>
    have hff : FA = true ∧ FB = true := by have := HFF.out; simpa using this.symm
    have hca : a.cnt ≤ 400 := by have := HFA.out hff.1; omega
    have hcb : b.cnt ≤ 400 := by have := HFB.out hff.2; omega
    have k0 := (hb1.block w.heap.size (by have := HL0.out; omega)).trans HM0.out
    have k1 := (hb1.block (w.heap.size + 1) HL0.out).trans HM1.out
    have HL1 := Lib.hid (Nat.lt_of_lt_of_le HL0.out hb1.size)
    have HS : Hid (∀ W, Below w1.heap.size w1 W → W.cell? ⟨w.heap.size, 0, none⟩ = some (.int .i64 a.op) ∧ W.cell? ⟨w.heap.size, 1, none⟩ = some (.int .i64 a.n) ∧ W.cell? ⟨w.heap.size, 2, none⟩ = some (.slice A1 a.kids.length c1) ∧ W.cell? ⟨w.heap.size + 1, 0, none⟩ = some (.int .i64 b.op) ∧ W.cell? ⟨w.heap.size + 1, 1, none⟩ = some (.int .i64 b.n) ∧ W.cell? ⟨w.heap.size + 1, 2, none⟩ = some (.slice A2 b.kids.length c2)) := fun W hW => by
      have kk := (hW.block w.heap.size (by have := HL1.out; omega)).trans k0
      have kl := (hW.block (w.heap.size + 1) HL1.out).trans k1
      exact ⟨cell_of_row _ _ 0 _ _ _ kk, cell_of_row _ _ 1 _ _ _ kk, cell_of_row _ _ 2 _ _ _ kk, cell_of_row _ _ 0 _ _ _ kl, cell_of_row _ _ 1 _ _ _ kl, cell_of_row _ _ 2 _ _ _ kl⟩
    have HCC : Hid (∀ W w', Below w1.heap.size w1 W → Below W.heap.size W w' → Below w1.heap.size w1 w') := fun W w' h h' => h.trans (h'.mono h.size)
    have HUP : Hid (∀ W, Below w1.heap.size w1 W → Below w.heap.size w W) := fun W hW => HB1.out.trans (hW.mono HB1.out.size)
    have hb2d := (Below.refl w1.heap.size w1).drew
    clear hb1 k0 k1 hff
    by_cases z1 : T1 = ⟨#[]⟩
    · subst z1
      go_wp2_with fail
      go_region_held3 (fun w' => w'.cell? ⟨w.heap.size, 0, none⟩ = some (.int .i64 a.op) ∧ w'.cell? ⟨w.heap.size, 1, none⟩ = some (.int .i64 a.n) ∧ w'.cell? ⟨w.heap.size, 2, none⟩ = some (.slice A1 a.kids.length c1) ∧ w'.cell? ⟨w.heap.size + 1, 0, none⟩ = some (.int .i64 b.op) ∧ w'.cell? ⟨w.heap.size + 1, 1, none⟩ = some (.int .i64 b.n) ∧ w'.cell? ⟨w.heap.size + 1, 2, none⟩ = some (.slice A2 b.kids.length c2))
        (first
          | (go_keep; done)
          | exact HS.out _ hb2d
          | exact HS.out _ hb3
          | exact HS.out _ hb4)
        (first
          | (go_at_call 35; (with_reducible refine (HP1.out _ (HUP.out _ hb2d) hca).mono ?_); rintro e w3 ⟨rfl, hb3'⟩; have hb3 := HCC.out _ _ hb2d hb3'; clear hb3')
          | (go_at_call 35; (with_reducible refine (HP2.out _ (HUP.out _ hb3) hcb).mono ?_); rintro e w4 ⟨rfl, hb4'⟩; have hb4 := HCC.out _ _ hb3 hb4'; clear hb4'))
      obtain ⟨s0, s1, s2, s3, s4, s5⟩ := HS.out _ hb4
      go_wp2_with fail
      refine (HR1.out _ (HUP.out _ hb4) hca).mono ?_
      rintro e w5 ⟨rfl, hb5'⟩
      have hb5 := HCC.out _ _ hb4 hb5'
      clear hb5'
      obtain ⟨t0, t1, t2, t3, t4, t5⟩ := HS.out _ hb5
      go_wp2_with fail
      refine (HR2.out _ (HUP.out _ hb5) hcb).mono ?_
      rintro e w6 ⟨rfl, hb6'⟩
      have hb6 := HCC.out _ _ hb5 hb6'
      clear hb6'
      obtain ⟨u0, u1, u2, u3, u4, u5⟩ := HS.out _ hb6
      go_wp2_with fail
      refine (HA.out _ (HUP.out _ hb6)).mono ?_
      rintro e w8 ⟨rfl, hb8'⟩
      have hb8 := HCC.out _ _ hb6 hb8'
      clear hb8'
      go_wp2_with fail
      go_ret
      exact ⟨rfl, HUP.out _ hb8⟩
    · have x1 : ¬ T1.toList = [] := fun h => z1 ((ba_tl0 _).1 h)
      have x2 : decide (T1.toList = []) = false := decide_eq_false x1
      have x2' : (T1.toList == []) = false := beq_eq_false_iff_ne.2 x1
      by_cases z2 : T2 = ⟨#[]⟩
      · subst z2
        go_wp2_with fail
        go_region_held3 (fun w' => w'.cell? ⟨w.heap.size, 0, none⟩ = some (.int .i64 a.op) ∧ w'.cell? ⟨w.heap.size, 1, none⟩ = some (.int .i64 a.n) ∧ w'.cell? ⟨w.heap.size, 2, none⟩ = some (.slice A1 a.kids.length c1) ∧ w'.cell? ⟨w.heap.size + 1, 0, none⟩ = some (.int .i64 b.op) ∧ w'.cell? ⟨w.heap.size + 1, 1, none⟩ = some (.int .i64 b.n) ∧ w'.cell? ⟨w.heap.size + 1, 2, none⟩ = some (.slice A2 b.kids.length c2))
          (first
            | (go_keep; done)
            | exact HS.out _ hb2d
            | exact HS.out _ hb3
            | exact HS.out _ hb4)
          (first
            | (go_at_call 35; (with_reducible refine (HP1.out _ (HUP.out _ hb2d) hca).mono ?_); rintro e w3 ⟨rfl, hb3'⟩; have hb3 := HCC.out _ _ hb2d hb3'; clear hb3')
            | (go_at_call 35; (with_reducible refine (HP2.out _ (HUP.out _ hb3) hcb).mono ?_); rintro e w4 ⟨rfl, hb4'⟩; have hb4 := HCC.out _ _ hb3 hb4'; clear hb4'))
        obtain ⟨s0, s1, s2, s3, s4, s5⟩ := HS.out _ hb4
        go_wp2_with fail
        refine (HR1.out _ (HUP.out _ hb4) hca).mono ?_
        rintro e w5 ⟨rfl, hb5'⟩
        have hb5 := HCC.out _ _ hb4 hb5'
        clear hb5'
        obtain ⟨t0, t1, t2, t3, t4, t5⟩ := HS.out _ hb5
        go_wp2_with fail
        refine (HR2.out _ (HUP.out _ hb5) hcb).mono ?_
        rintro e w6 ⟨rfl, hb6'⟩
        have hb6 := HCC.out _ _ hb5 hb6'
        clear hb6'
        obtain ⟨u0, u1, u2, u3, u4, u5⟩ := HS.out _ hb6
        go_wp2_with fail
        refine (HA.out _ (HUP.out _ hb6)).mono ?_
        rintro e w8 ⟨rfl, hb8'⟩
        have hb8 := HCC.out _ _ hb6 hb8'
        clear hb8'
        go_wp2_with fail
        go_ret
        exact ⟨rfl, HUP.out _ hb8⟩
      · have y1 : ¬ T2.toList = [] := fun h => z2 ((ba_tl0 _).1 h)
        have y2 : decide (T2.toList = []) = false := decide_eq_false y1
        have y2' : (T2.toList == []) = false := beq_eq_false_iff_ne.2 y1
        have hx := HSM.out (fun h => z1 (HE1.out.2 h)) (fun h => z2 (HE2.out.2 h))
        have hx2 : decide (T1 = T2) = a.sam b := by
          rw [← hx]
          exact decide_eq_decide.2 HE3.out
        clear hx HSM HE1 HE2 HE3
        generalize a.sam b = X at *
        cases X with
        | true =>
          have hx3 := of_decide_eq_true hx2
          subst hx3
          clear hx2
          go_wp2_with fail
          go_region_held3 (fun w' => w'.cell? ⟨w.heap.size, 0, none⟩ = some (.int .i64 a.op) ∧ w'.cell? ⟨w.heap.size, 1, none⟩ = some (.int .i64 a.n) ∧ w'.cell? ⟨w.heap.size, 2, none⟩ = some (.slice A1 a.kids.length c1) ∧ w'.cell? ⟨w.heap.size + 1, 0, none⟩ = some (.int .i64 b.op) ∧ w'.cell? ⟨w.heap.size + 1, 1, none⟩ = some (.int .i64 b.n) ∧ w'.cell? ⟨w.heap.size + 1, 2, none⟩ = some (.slice A2 b.kids.length c2))
            (first
              | (go_keep; done)
              | exact HS.out _ hb2d
              | exact HS.out _ hb3
              | exact HS.out _ hb4)
            (first
              | (go_at_call 35; (with_reducible refine (HP1.out _ (HUP.out _ hb2d) hca).mono ?_); rintro e w3 ⟨rfl, hb3'⟩; have hb3 := HCC.out _ _ hb2d hb3'; clear hb3')
              | (go_at_call 35; (with_reducible refine (HP2.out _ (HUP.out _ hb3) hcb).mono ?_); rintro e w4 ⟨rfl, hb4'⟩; have hb4 := HCC.out _ _ hb3 hb4'; clear hb4'))
          obtain ⟨s0, s1, s2, s3, s4, s5⟩ := HS.out _ hb4
          go_wp2_with fail
          refine (HR1.out _ (HUP.out _ hb4) hca).mono ?_
          rintro e w5 ⟨rfl, hb5'⟩
          have hb5 := HCC.out _ _ hb4 hb5'
          clear hb5'
          obtain ⟨t0, t1, t2, t3, t4, t5⟩ := HS.out _ hb5
          go_wp2_with fail
          refine (HR2.out _ (HUP.out _ hb5) hcb).mono ?_
          rintro e w6 ⟨rfl, hb6'⟩
          have hb6 := HCC.out _ _ hb5 hb6'
          clear hb6'
          obtain ⟨u0, u1, u2, u3, u4, u5⟩ := HS.out _ hb6
          go_wp2_with fail
          refine (HSC.out _ (HUP.out _ hb6)).mono ?_
          rintro e w7 ⟨rfl, hb7'⟩
          have hb7 := HCC.out _ _ hb6 hb7'
          clear hb7'
          go_wp2_with fail
          refine (HA.out _ (HUP.out _ hb7)).mono ?_
          rintro e w8 ⟨rfl, hb8'⟩
          have hb8 := HCC.out _ _ hb7 hb8'
          clear hb8'
          go_wp2_with fail
          go_ret
          exact ⟨rfl, HUP.out _ hb8⟩
        | false =>
          have hx3 := of_decide_eq_false hx2
          have x3 : ¬ T1.toList = T2.toList := fun h => hx3 ((ba_tl _ _).1 h)
          have x4 : decide (T1.toList = T2.toList) = false := decide_eq_false x3
          have x5 : (T1.toList == T2.toList) = false := beq_eq_false_iff_ne.2 x3
          go_wp2_with fail
          go_region_held3 (fun w' => w'.cell? ⟨w.heap.size, 0, none⟩ = some (.int .i64 a.op) ∧ w'.cell? ⟨w.heap.size, 1, none⟩ = some (.int .i64 a.n) ∧ w'.cell? ⟨w.heap.size, 2, none⟩ = some (.slice A1 a.kids.length c1) ∧ w'.cell? ⟨w.heap.size + 1, 0, none⟩ = some (.int .i64 b.op) ∧ w'.cell? ⟨w.heap.size + 1, 1, none⟩ = some (.int .i64 b.n) ∧ w'.cell? ⟨w.heap.size + 1, 2, none⟩ = some (.slice A2 b.kids.length c2))
            (first
              | (go_keep; done)
              | exact HS.out _ hb2d
              | exact HS.out _ hb3
              | exact HS.out _ hb4)
            (first
              | (go_at_call 35; (with_reducible refine (HP1.out _ (HUP.out _ hb2d) hca).mono ?_); rintro e w3 ⟨rfl, hb3'⟩; have hb3 := HCC.out _ _ hb2d hb3'; clear hb3')
              | (go_at_call 35; (with_reducible refine (HP2.out _ (HUP.out _ hb3) hcb).mono ?_); rintro e w4 ⟨rfl, hb4'⟩; have hb4 := HCC.out _ _ hb3 hb4'; clear hb4'))
          obtain ⟨s0, s1, s2, s3, s4, s5⟩ := HS.out _ hb4
          go_wp2_with fail
          refine (HR1.out _ (HUP.out _ hb4) hca).mono ?_
          rintro e w5 ⟨rfl, hb5'⟩
          have hb5 := HCC.out _ _ hb4 hb5'
          clear hb5'
          obtain ⟨t0, t1, t2, t3, t4, t5⟩ := HS.out _ hb5
          go_wp2_with fail
          refine (HR2.out _ (HUP.out _ hb5) hcb).mono ?_
          rintro e w6 ⟨rfl, hb6'⟩
          have hb6 := HCC.out _ _ hb5 hb6'
          clear hb6'
          obtain ⟨u0, u1, u2, u3, u4, u5⟩ := HS.out _ hb6
          go_wp2_with fail
          refine (HSC.out _ (HUP.out _ hb6)).mono ?_
          rintro e w7 ⟨rfl, hb7'⟩
          have hb7 := HCC.out _ _ hb6 hb7'
          clear hb7'
          go_wp2_with fail
          refine (HA.out _ (HUP.out _ hb7)).mono ?_
          rintro e w8 ⟨rfl, hb8'⟩
          have hb8 := HCC.out _ _ hb7 hb8'
          clear hb8'
          go_wp2_with fail
          go_ret
          exact ⟨rfl, HUP.out _ hb8⟩
end Go.Proofs.YtjkbfogjfgnhiaaDoor
