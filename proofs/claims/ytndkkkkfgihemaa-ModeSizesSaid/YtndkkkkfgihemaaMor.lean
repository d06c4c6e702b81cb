/-
  Layer 20: a key derived, the check value (the reference's); their law.
-/
import Derived.Test.YtndkkkkfgihemaaMoq
namespace Go.Proofs.Ytndkkkkfgihemaa
set_option linter.unusedVariables false
set_option linter.unusedSimpArgs false
open Go.RowKit

set_option maxRecDepth 100000 in
set_option maxHeartbeats 3200000 in
theorem rbehind_any (b : UInt8) (z : Int) (hz : z = (b.toNat : Int)) (l : List UInt8) (u : Value) (w : World) (hl : SL w w.heap.size u l) (hs : l.length ≤ 1000) :
    Calls Try.prog 53 #[.int .u8 z, u] w fun e w' => ∃ v', e = .returned v' ∧ SL w' w'.heap.size v' (b :: l) ∧ Below w.heap.size w w' := by
  subst hz
  obtain ⟨A1, c1, rfl, h11, h12, h13⟩ := hl
  have HO : Hid (∀ o, o = Obj.cells #[.int .u8 (b.toNat : Int)] 5 → OB (w.alloc o) w.heap.size (.slice (some ⟨w.heap.size, 0, none⟩) 1 1) [b]) := fun o ho => by
    subst ho
    exact OB.of_cells (Nat.le_refl _) (by simp) (by unfold maxLen; omega) (by rw [heap_alloc_new]; rfl)
  have hal := fun o => (Below.refl w.heap.size w).alloc (Nat.le_refl _) o
  have HR := Lib.hid (fun o (hp : 0 < l.length) => by obtain ⟨b6, o6, hA, hb6, hc6⟩ := h13 hp; exact (⟨b6, o6, hA, fun k hk => ((hal o).cell hb6).trans (hc6 k hk)⟩ : ∃ b6 o6, A1 = some ⟨b6, o6, none⟩ ∧ ∀ k, k < l.length → (w.alloc o).cell? ⟨b6, o6 + k, none⟩ = some (.int .u8 ((l.getD k 0).toNat : Int))))
  have HAL := Lib.hid (fun o => (hal o))
  clear hal
  go_enter Try.func53, Try.ntmps53
  go_wp2_with (at_builtin; (refine wpList_appS rfl _ _ rfl (w.alloc _) w.heap.size _ [b] l A1 c1 rfl rfl (Below.refl _ _) (HO.out _ rfl) (HR.out _) (by simp; omega) (by rw [alloc_size]; omega) ?_; intro v2 w2 hv2 hb2))
  go_ret
  exact ⟨_, rfl, hv2.sl, (HAL.out _).trans hb2⟩

set_option maxRecDepth 100000 in
set_option maxHeartbeats 3200000 in
theorem rder_any (k l : List UInt8) (v u : Value) (w : World) (hk : SL w w.heap.size v k) (hl : SL w w.heap.size u l) (hs : l.length ≤ 1000) :
    Calls Try.prog 31 #[v, u] w (CiW (derL k l) (fitM k z8) w) := by
  have HZ := Lib.hid rzeros_any
  have HB1 := Lib.hid (fun W (hb : Below w.heap.size w W) => rbehind_any 1 1 rfl l u W (hl.on hb) hs)
  have HB2 := Lib.hid (fun W (hb : Below w.heap.size w W) => rbehind_any 2 2 rfl l u W (hl.on hb) hs)
  have HM1 := Lib.hid (fun W vz vl (hb : Below w.heap.size w W) (hz : SL W W.heap.size vz z8) (h : SL W W.heap.size vl (1 :: l)) => rmac_any k z8 (1 :: l) v vz vl W (hk.on hb) hz h (by simp; omega))
  have HM2 := Lib.hid (fun W vz vl (hb : Below w.heap.size w W) (hz : SL W W.heap.size vz z8) (h : SL W W.heap.size vl (2 :: l)) => rmac_any k z8 (2 :: l) v vz vl W (hk.on hb) hz h (by simp; omega))
  by_cases hf : fitM k z8 = 0
  · rw [derL, if_pos hf]
    have l1 := macL_len k z8 (1 :: l)
    have l2 := macL_len k z8 (2 :: l)
    rw [macM, if_pos hf, hf] at HM1 HM2
    rw [hf]
    generalize macL k z8 (1 :: l) = r1 at *
    generalize macL k z8 (2 :: l) = r2 at *
    have L1 := Lib.hid l1
    have L2 := Lib.hid l2
    obtain ⟨A1, c1, rfl, h11, h12, h13⟩ := hk
    obtain ⟨A2, c2, rfl, h21, h22, h23⟩ := hl
    clear h13 h23 hf l1 l2
    go_enter Try.func31, Try.ntmps31
    go_wp2_with fail
    refine (HZ.out _).mono ?_
    rintro e w1 ⟨v1, rfl, hv1, hb1⟩
    go_wp2_with fail
    refine (HB1.out _ hb1).mono ?_
    rintro e w2 ⟨v2, rfl, hv2, hb2⟩
    have b2 := after hb1 hb2
    go_wp2_with fail
    refine (HM1.out _ _ _ b2 (hv1.on hb2) hv2).mono ?_
    rintro e w3 ⟨v3, rfl, hv3, hb3⟩
    have b3 := after b2 hb3
    go_wp2_with fail
    refine (HZ.out _).mono ?_
    rintro e w4 ⟨v4, rfl, hv4, hb4⟩
    have b4 := after b3 hb4
    go_wp2_with fail
    refine (HB2.out _ b4).mono ?_
    rintro e w5 ⟨v5, rfl, hv5, hb5⟩
    have b5 := after b4 hb5
    go_wp2_with fail
    refine (HM2.out _ _ _ b5 (hv4.on hb5) hv5).mono ?_
    rintro e w6 ⟨v6, rfl, hv6, hb6⟩
    have b6 := after b5 hb6
    have H36 := hv3.on (after hb4 (after hb5 hb6))
    obtain ⟨A6, c6, e6, h61, h62, h63⟩ := H36
    obtain ⟨A7, c7, e7, h71, h72, h73⟩ := hv6
    subst e6 e7
    have HR6 := Lib.hid (fun W (hb : Below w6.heap.size w6 W) (hp : 0 < r1.length) => by obtain ⟨b6, o6, hA, hb6, hc6⟩ := h63 hp; exact (⟨b6, o6, hA, fun k hk => (hb.cell hb6).trans (hc6 k hk)⟩ : ∃ b6 o6, A6 = some ⟨b6, o6, none⟩ ∧ ∀ k, k < r1.length → W.cell? ⟨b6, o6 + k, none⟩ = some (.int .u8 ((r1.getD k 0).toNat : Int))))
    have HR7 := Lib.hid (fun W (hb : Below w6.heap.size w6 W) (hp : 0 < r2.length) => by obtain ⟨b6, o6, hA, hb6, hc6⟩ := h73 hp; exact (⟨b6, o6, hA, fun k hk => (hb.cell hb6).trans (hc6 k hk)⟩ : ∃ b6 o6, A7 = some ⟨b6, o6, none⟩ ∧ ∀ k, k < r2.length → W.cell? ⟨b6, o6 + k, none⟩ = some (.int .u8 ((r2.getD k 0).toNat : Int))))
    clear h63 h73 hv3
    go_wp2_with (first
      | (at_builtin; refine wpList_appS rfl _ _ rfl w6 w6.heap.size _ [] r1 A6 c6 rfl rfl (Below.refl _ _) (OB.nil _ _) (HR6.out _ (Below.refl _ _)) (by have := L1.out; simp; omega) (Nat.le_refl _) ?_; intro v7 w7 hv7 hb7; obtain ⟨A8, c8, rfl⟩ := hv7.value)
      | (at_builtin; refine wpList_appS rfl _ _ rfl w7 w6.heap.size _ ([] ++ r1) r2 A7 c7 rfl rfl (Below.refl _ _) hv7 (HR7.out _ hb7) (by have := L1.out; have := L2.out; simp; omega) hb7.size ?_; intro v8 w8 hv8 hb8; obtain ⟨A9, c9, rfl⟩ := hv8.value))
    go_ret2
    have H8 := hv8.sl
    simp only [List.nil_append, List.length_append] at H8
    exact ⟨_, rfl, H8, after b6 (hb7.trans hb8)⟩
  · rw [derL, if_neg hf]
    have hn : (fitM k z8 != 0) = true := by simp [hf]
    generalize fitM k z8 = E at *
    obtain ⟨A1, c1, rfl, h11, h12, h13⟩ := hk
    obtain ⟨A2, c2, rfl, h21, h22, h23⟩ := hl
    clear h13 h23 hf
    go_enter Try.func31, Try.ntmps31
    go_wp2_with fail
    refine (HZ.out _).mono ?_
    rintro e w1 ⟨v1, rfl, hv1, hb1⟩
    go_wp2_with fail
    refine (HB1.out _ hb1).mono ?_
    rintro e w2 ⟨v2, rfl, hv2, hb2⟩
    have b2 := after hb1 hb2
    go_wp2_with fail
    refine (HM1.out _ _ _ b2 (hv1.on hb2) hv2).mono ?_
    rintro e w3 ⟨v3, rfl, hv3, hb3⟩
    go_wp2
    go_ret2
    exact ⟨_, rfl, SL.nil _ _ _ _ (Nat.zero_le _), after b2 hb3⟩
set_option maxRecDepth 100000 in
set_option maxHeartbeats 3200000 in
theorem rchk_any (k : List UInt8) (v : Value) (w : World) (hk : SL w w.heap.size v k) :
    Calls Try.prog 33 #[v] w (CiW (chkL k) (fitM k z8) w) := by
  have HZ := Lib.hid rzeros_any
  have HE := Lib.hid (fun W vz (hb : Below w.heap.size w W) (hz : SL W W.heap.size vz z8) => renc_any k z8 v vz W (hk.on hb) hz)
  by_cases hf : k.length = 16
  · have e0 : fitM k z8 = 0 := by rw [fitM_z, if_neg (by simp [hf])]
    rw [chkL, e0, if_pos rfl]
    have f1 : fitE k z8 = 0 := fit_ok hf (by simp [z8])
    rw [encM, if_pos f1, f1] at HE
    have hl := encB_length k z8
    generalize encB k z8 = y at *
    have HYL := Lib.hid hl
    have HTL : Hid ((y.take 3).length = 3) := by show _ = _; rw [List.length_take]; omega
    obtain ⟨A1, c1, rfl, h11, h12, h13⟩ := hk
    clear h13 hf f1 hl e0
    go_enter Try.func33, Try.ntmps33
    go_wp2_with fail
    refine (HZ.out _).mono ?_
    rintro e w1 ⟨v1, rfl, hv1, hb1⟩
    go_wp2_with fail
    refine (HE.out _ _ hb1 hv1).mono ?_
    rintro e w2 ⟨v2, rfl, hv2, hb2⟩
    have b2 := after hb1 hb2
    obtain ⟨A6, c6, rfl, h61, h62, h63⟩ := hv2.sl
    have h9 : SL w2 w2.heap.size (.slice A6 3 c6) (y.take 3) := ⟨A6, c6, by rw [HTL.out], by rw [HTL.out]; have := HYL.out; omega, h62, Rd.take h63 3⟩
    obtain ⟨b6, o6, rfl, hb6, hc6⟩ := h63 (by rw [HYL.out]; omega)
    have H9 := Lib.hid h9
    rw [HYL.out] at h61 ⊢
    clear h9 h63 hc6 hv2
    unfold maxLen at h62
    go_wp2
    go_ret2
    exact ⟨_, rfl, H9.out, b2⟩
  · have e0 : fitM k z8 = 1 := by rw [fitM_z, if_pos hf]
    have f1 : fitE k z8 = 19 := by rw [fitE, if_pos hf]
    rw [chkL, e0, if_neg (by decide)]
    rw [f1] at HE
    obtain ⟨A1, c1, rfl, h11, h12, h13⟩ := hk
    clear h13 hf e0 f1
    go_enter Try.func33, Try.ntmps33
    go_wp2_with fail
    refine (HZ.out _).mono ?_
    rintro e w1 ⟨v1, rfl, hv1, hb1⟩
    go_wp2_with fail
    refine (HE.out _ _ hb1 hv1).mono ?_
    rintro e w2 ⟨v2, rfl, hv2, hb2⟩
    go_wp2
    go_ret2
    exact ⟨_, rfl, SL.nil _ _ _ _ (Nat.zero_le _), after hb1 hb2⟩
set_option maxRecDepth 100000 in
set_option maxHeartbeats 3200000 in
theorem law_mderives (k d : List UInt8) (v t : Value) (w : World) (hk : SL w w.heap.size v k) (hd : SL w w.heap.size t d) :
    Calls Try.prog 10 #[v, t] w fun e w' => e = .returned (.bool true) ∧ Below w.heap.size w w' := by
  have HW := Lib.hid works_any
  have HF := Lib.hid (fun o ho => few2 k d v t w o ho hk hd)
  have hd9 : fewB [k, d] = true → d.length ≤ 1000 := fun h => by
    simp [fewB] at h
    omega
  have H1 := Lib.hid (fun W (h : Below w.heap.size w W) (hl : d.length ≤ 1000) => pder_any k d v t W (hk.on h) (hd.on h) hl)
  have H2 := Lib.hid (fun W (h : Below w.heap.size w W) (hl : d.length ≤ 1000) => rder_any k d v t W (hk.on h) (hd.on h) hl)
  have H3 := Lib.hid (fun W (h : Below w.heap.size w W) => pchk_any k v W (hk.on h))
  have H4 := Lib.hid (fun W (h : Below w.heap.size w W) => rchk_any k v W (hk.on h))
  generalize derL k d = r at *
  generalize chkL k = s at *
  generalize fitM k z8 = E at *
  obtain ⟨A1, c1, rfl, h11, h12, h13⟩ := hk
  obtain ⟨A3, c3, rfl, h31, h32, h33⟩ := hd
  clear h13 h33
  generalize fewB [k, d] = q at *
  have H9 := Lib.hid hd9
  clear hd9
  go_enter Try.func10, Try.ntmps10
  go_wp2_with fail
  refine (HF.out _ rfl).mono ?_
  rintro e w1 ⟨rfl, hb1⟩
  cases q
  · go_wp2_with fail
    refine (HW.out _).mono ?_
    rintro e w2 ⟨rfl, hb2⟩
    go_wp2
    go_ret
    exact ⟨rfl, after hb1 hb2⟩
  · go_wp2_with fail
    refine (H1.out _ hb1 (H9.out (by first | exact trivial | rfl))).mono ?_
    rintro e w2 ⟨v2, rfl, hv2, hb2⟩
    have b2 := after hb1 hb2
    go_wp2_with fail
    refine (H2.out _ b2 (H9.out (by first | exact trivial | rfl))).mono ?_
    rintro e w3 ⟨v3, rfl, hv3, hb3⟩
    have b3 := after b2 hb3
    go_wp2_with fail
    refine (H3.out _ b3).mono ?_
    rintro e w4 ⟨v4, rfl, hv4, hb4⟩
    have b4 := after b3 hb4
    go_wp2_with fail
    refine (H4.out _ b4).mono ?_
    rintro e w5 ⟨v5, rfl, hv5, hb5⟩
    have b5 := after b4 hb5
    have C2 := (hv2.on (after hb3 (after hb4 hb5))).convert
    have C3 := (hv3.on (after hb4 hb5)).convert
    have C4 := (hv4.on hb5).convert
    have C5 := hv5.convert
    go_wp2_with fail
    refine (HW.out _).mono ?_
    rintro e w6 ⟨rfl, hb6⟩
    go_wp2
    go_ret
    exact ⟨rfl, after b5 hb6⟩
end Go.Proofs.Ytndkkkkfgihemaa
