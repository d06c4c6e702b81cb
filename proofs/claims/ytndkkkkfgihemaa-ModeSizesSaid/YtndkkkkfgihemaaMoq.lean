/-
  Layer 20: a key derived; the check value (the program's).
-/
import Derived.Test.YtndkkkkfgihemaaMok
namespace Go.Proofs.Ytndkkkkfgihemaa
set_option linter.unusedVariables false
set_option linter.unusedSimpArgs false
open Go.RowKit

theorem pzeros_any (w : World) : Calls Try.prog 50 #[] w fun e w' => ∃ v', e = .returned v' ∧ SL w' w'.heap.size v' z8 ∧ Below w.heap.size w w' := by
  have H := Lib.hid mkz8
  have H2 := ob_zeros 8 (by omega) w
  go_enter Try.func50, Try.ntmps50
  go_wp2_with (first | (rw [H.out]))
  go_ret
  exact ⟨_, rfl, H2.sl, (Below.refl _ _).alloc (Nat.le_refl _) _⟩
theorem rzeros_any (w : World) : Calls Try.prog 52 #[] w fun e w' => ∃ v', e = .returned v' ∧ SL w' w'.heap.size v' z8 ∧ Below w.heap.size w w' := by
  have H := Lib.hid mkz8
  have H2 := ob_zeros 8 (by omega) w
  go_enter Try.func52, Try.ntmps52
  go_wp2_with (first | (rw [H.out]))
  go_ret
  exact ⟨_, rfl, H2.sl, (Below.refl _ _).alloc (Nat.le_refl _) _⟩

theorem join2 (a b : List UInt8) (va vb : Value) (W : World) (ha : SL W W.heap.size va a) (hb : SL W W.heap.size vb b) (la : a.length ≤ 2000) (lb : b.length ≤ 2000) (o : Obj) (ho : o = Obj.cells #[va, vb] 22) :
    Calls Try.prog 51 #[.slice (some ⟨W.heap.size, 0, none⟩) 2 2] (W.alloc o) fun e w' => ∃ v', e = .returned v' ∧ SL w' w'.heap.size v' (a ++ b) ∧ Below W.heap.size W w' := by
  subst ho
  have hal := (Below.refl W.heap.size W).alloc (Nat.le_refl _) (Obj.cells #[va, vb] 22)
  have hll : LL (W.alloc (Obj.cells #[va, vb] 22)) (W.alloc (Obj.cells #[va, vb] 22)).heap.size (.slice (some ⟨W.heap.size, 0, none⟩) 2 2) [a, b] :=
    LL.lit W.heap.size [va, vb] [a, b] rfl (by simp) (heap_alloc_new W _) (fun k hk => by
      have : k = 0 ∨ k = 1 := by simp at hk; omega
      rcases this with rfl | rfl
      · exact ha.on hal
      · exact hb.on hal)
  refine (pjoin_any [a, b] _ _ hll (by simp) (by simp [Lib.lens]; omega)).mono fun e w' ⟨v', e1, e2, e3⟩ => ⟨v', e1, by simpa using e2, hal.trans (e3.mono hal.size)⟩
theorem pbehind (b : UInt8) (z : Int) (hz : z = (b.toNat : Int)) (l : List UInt8) (u : Value) (W : World) (hl : SL W W.heap.size u l) (hs : l.length ≤ 1000) (o1 o2 : Obj) (h1 : o1 = Obj.cells #[.int .u8 z] 5) (h2 : o2 = Obj.cells #[.slice (some ⟨W.heap.size, 0, none⟩) 1 1, u] 22) :
    Calls Try.prog 51 #[.slice (some ⟨W.heap.size + 1, 0, none⟩) 2 2] ((W.alloc o1).alloc o2) fun e w' => ∃ v', e = .returned v' ∧ SL w' w'.heap.size v' (b :: l) ∧ Below W.heap.size W w' := by
  have hb := (Below.refl W.heap.size W).alloc (Nat.le_refl _) o1
  have hs1 : SL (W.alloc o1) (W.alloc o1).heap.size (.slice (some ⟨W.heap.size, 0, none⟩) 1 1) [b] := by
    have h := SL.litn W [b] (by simp)
    rw [h1, hz]
    exact h
  have H := join2 [b] l _ u (W.alloc o1) hs1 (hl.on hb) (by simp) (by omega) o2 h2
  rw [alloc_size] at H
  refine H.mono fun e w' ⟨v', e1, e2, e3⟩ => ⟨v', e1, e2, hb.trans (e3.mono (by omega))⟩

theorem fitM_z (k : List UInt8) : fitM k z8 = if k.length ≠ 16 then 1 else 0 := by
  unfold fitM
  by_cases h : k.length = 16
  · rw [if_neg (by simp [h, z8]), if_neg (by simp [h])]
  · rw [if_pos (by simp [h]), if_pos (by simp [h])]
/-- The key derived. -/
def derL (k l : List UInt8) : List UInt8 := if fitM k z8 = 0 then macL k z8 (1 :: l) ++ macL k z8 (2 :: l) else []
/-- The check value. -/
def chkL (k : List UInt8) : List UInt8 := if fitM k z8 = 0 then (encB k z8).take 3 else []

set_option maxRecDepth 100000 in
set_option maxHeartbeats 3200000 in
theorem pder_any (k l : List UInt8) (v u : Value) (w : World) (hk : SL w w.heap.size v k) (hl : SL w w.heap.size u l) (hs : l.length ≤ 1000) :
    Calls Try.prog 30 #[v, u] w (CiW (derL k l) (fitM k z8) w) := by
  have HZ := Lib.hid pzeros_any
  have HB1 := Lib.hid (fun W (hb : Below w.heap.size w W) o1 o2 => pbehind 1 1 rfl l u W (hl.on hb) hs o1 o2)
  have HB2 := Lib.hid (fun W (hb : Below w.heap.size w W) o1 o2 => pbehind 2 2 rfl l u W (hl.on hb) hs o1 o2)
  have HM1 := Lib.hid (fun W vz vl (hb : Below w.heap.size w W) (hz : SL W W.heap.size vz z8) (h : SL W W.heap.size vl (1 :: l)) => pmac_any k z8 (1 :: l) v vz vl W (hk.on hb) hz h (by simp; omega))
  have HM2 := Lib.hid (fun W vz vl (hb : Below w.heap.size w W) (hz : SL W W.heap.size vz z8) (h : SL W W.heap.size vl (2 :: l)) => pmac_any k z8 (2 :: l) v vz vl W (hk.on hb) hz h (by simp; omega))
  by_cases hf : fitM k z8 = 0
  · rw [derL, if_pos hf]
    have l1 := macL_len k z8 (1 :: l)
    have l2 := macL_len k z8 (2 :: l)
    rw [macM, if_pos hf, hf] at HM1 HM2
    rw [hf]
    generalize macL k z8 (1 :: l) = r1 at *
    generalize macL k z8 (2 :: l) = r2 at *
    have HJ := Lib.hid (fun W va vb (ha : SL W W.heap.size va r1) (hb : SL W W.heap.size vb r2) o => join2 r1 r2 va vb W ha hb (by omega) (by omega) o)
    obtain ⟨A1, c1, rfl, h11, h12, h13⟩ := hk
    obtain ⟨A2, c2, rfl, h21, h22, h23⟩ := hl
    clear h13 h23 hf l1 l2
    go_enter Try.func30, Try.ntmps30
    go_wp2_with fail
    refine (HZ.out _).mono ?_
    rintro e w1 ⟨v1, rfl, hv1, hb1⟩
    go_wp2_with fail
    refine (HB1.out _ hb1 _ _ rfl rfl).mono ?_
    rintro e w2 ⟨v2, rfl, hv2, hb2⟩
    have b2 := after hb1 hb2
    go_wp2_with fail
    refine (HM1.out _ _ _ b2 (hv1.on hb2) hv2).mono ?_
    rintro e w3 ⟨v3, rfl, hv3, hb3⟩
    have b3 := after b2 hb3
    go_wp2_with fail
    refine (HZ.out _).mono ?_
    rintro e w4 ⟨v4, rfl, hv4, hb4⟩
    have b4 := after b3 hb4
    go_wp2_with fail
    refine (HB2.out _ b4 _ _ rfl rfl).mono ?_
    rintro e w5 ⟨v5, rfl, hv5, hb5⟩
    have b5 := after b4 hb5
    go_wp2_with fail
    refine (HM2.out _ _ _ b5 (hv4.on hb5) hv5).mono ?_
    rintro e w6 ⟨v6, rfl, hv6, hb6⟩
    have b6 := after b5 hb6
    have H36 := hv3.on (after hb4 (after hb5 hb6))
    obtain ⟨A6, c6, e6, _⟩ := id hv3
    obtain ⟨A7, c7, e7, _⟩ := id hv6
    subst e6 e7
    go_wp2_with fail
    refine (HJ.out _ _ _ H36 hv6 _ rfl).mono ?_
    rintro e w7 ⟨v7, rfl, hv7, hb7⟩
    go_wp2
    go_ret2
    exact ⟨_, rfl, hv7, after b6 hb7⟩
  · rw [derL, if_neg hf]
    have hn : (fitM k z8 != 0) = true := by simp [hf]
    generalize fitM k z8 = E at *
    obtain ⟨A1, c1, rfl, h11, h12, h13⟩ := hk
    obtain ⟨A2, c2, rfl, h21, h22, h23⟩ := hl
    clear h13 h23 hf
    go_enter Try.func30, Try.ntmps30
    go_wp2_with fail
    refine (HZ.out _).mono ?_
    rintro e w1 ⟨v1, rfl, hv1, hb1⟩
    go_wp2_with fail
    refine (HB1.out _ hb1 _ _ rfl rfl).mono ?_
    rintro e w2 ⟨v2, rfl, hv2, hb2⟩
    have b2 := after hb1 hb2
    go_wp2_with fail
    refine (HM1.out _ _ _ b2 (hv1.on hb2) hv2).mono ?_
    rintro e w3 ⟨v3, rfl, hv3, hb3⟩
    go_wp2
    go_ret2
    exact ⟨_, rfl, SL.nil _ _ _ _ (Nat.zero_le _), after b2 hb3⟩
set_option maxRecDepth 100000 in
set_option maxHeartbeats 3200000 in
theorem pchk_any (k : List UInt8) (v : Value) (w : World) (hk : SL w w.heap.size v k) :
    Calls Try.prog 32 #[v] w (CiW (chkL k) (fitM k z8) w) := by
  have HZ := Lib.hid pzeros_any
  have HE := Lib.hid (fun W vz (hb : Below w.heap.size w W) (hz : SL W W.heap.size vz z8) => penc_any k z8 v vz W (hk.on hb) hz)
  by_cases hf : k.length = 16
  · have e0 : fitM k z8 = 0 := by rw [fitM_z, if_neg (by simp [hf])]
    rw [chkL, e0, if_pos rfl]
    have f1 : fitE k z8 = 0 := fit_ok hf (by simp [z8])
    rw [encM, if_pos f1, f1] at HE
    have hl := encB_length k z8
    generalize encB k z8 = y at *
    have HYL := Lib.hid hl
    have n1 : ((k.length : Int) != 16) = false := by simp [hf]
    have HCL := Lib.hid (fun W v (h : SL W W.heap.size v (y.take 3)) => clone_own (y.take 3) v W h (by simp; omega))
    have HTL : Hid ((y.take 3).length = 3) := by show _ = _; rw [List.length_take]; omega
    obtain ⟨A1, c1, rfl, h11, h12, h13⟩ := hk
    clear h13 hf f1 hl
    go_enter Try.func32, Try.ntmps32
    go_wp2_with fail
    refine (HZ.out _).mono ?_
    rintro e w1 ⟨v1, rfl, hv1, hb1⟩
    go_wp2_with fail
    refine (HE.out _ _ hb1 hv1).mono ?_
    rintro e w2 ⟨v2, rfl, hv2, hb2⟩
    have b2 := after hb1 hb2
    obtain ⟨A6, c6, rfl, h61, h62, h63⟩ := hv2.sl
    have h9 : SL w2 w2.heap.size (.slice A6 3 c6) (y.take 3) := ⟨A6, c6, by rw [HTL.out], by rw [HTL.out]; have := HYL.out; omega, h62, Rd.take h63 3⟩
    obtain ⟨b6, o6, rfl, hb6, hc6⟩ := h63 (by rw [HYL.out]; omega)
    have H9 := Lib.hid h9
    rw [HYL.out] at h61 ⊢
    clear h9 h63 hc6 hv2
    unfold maxLen at h62
    go_wp2_with fail
    refine (HCL.out _ _ H9.out).mono ?_
    rintro e w3 ⟨v3, rfl, hv3, hb3⟩
    go_wp2
    go_ret2
    exact ⟨_, rfl, hv3.sl, after b2 hb3⟩
  · have e0 : fitM k z8 = 1 := by rw [fitM_z, if_pos hf]
    rw [chkL, e0, if_neg (by decide)]
    have n1 : ((k.length : Int) != 16) = true := by simp; omega
    obtain ⟨A1, c1, rfl, h11, h12, h13⟩ := hk
    clear h13 hf
    go_enter Try.func32, Try.ntmps32
    go_wp2
    go_ret2
    exact ⟨_, rfl, SL.nil _ _ _ _ (Nat.zero_le _), Below.refl _ _⟩
end Go.Proofs.Ytndkkkkfgihemaa
