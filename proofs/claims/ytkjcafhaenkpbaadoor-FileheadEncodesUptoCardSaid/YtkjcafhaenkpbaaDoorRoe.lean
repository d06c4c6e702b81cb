/-
  The walk of the reference's object of a header: Roc.
  The walk of the reference's object of a header: Rod.
  The walk of the reference's object of a header: Roe.
-/
import Derived.Test.YtkjcafhaenkpbaaDoorRoa
import Derived.Test.YtkjcafhaenkpbaaDoorEnf
import Derived.Test.YtkjcafhaenkpbaaDoorSmy
namespace Go.Proofs.YtkjcafhaenkpbaaDoor
set_option linter.unusedVariables false
set_option linter.unusedSimpArgs false
open Go.RowKit


set_option maxRecDepth 100000 in
set_option maxHeartbeats 12800000 in
theorem robj_dir (I Z L R ST : Nat) (name : List UInt8) (rules : List Rl) (A1 : Option Addr) (c1 : Nat) (A2 : Option Addr) (c2 : Nat) (w : World)
    (hn1 : SL w w.heap.size (.slice A1 name.length c1) name) (hk1 : RL w w.heap.size (.slice A2 rules.length c2) rules) (hr : chkR rules = 0)
    (hI : I < 65536)  (hZ : Z < 65536) (hL : L < 256) (hR : R < 256)  (hST : ST < 256) 
    (P : List (Int × List UInt8)) (hP : P = [(130, kindB 1 L R), (131, putL I 2), (132, name), (128, []), (136, []), (138, [UInt8.ofNat ST]), (134, rM rules)]) :
    Calls Tryd.prog 35 #[.agg #[.int .i64 (I : Int), .int .i64 1, .slice A1 name.length c1, .int .i64 0, .int .i64 (Z : Int), .int .i64 (L : Int), .int .i64 (R : Int), .int .i64 (ST : Int), .slice A2 rules.length c2]] w fun e w' => ∃ A n c, e = .returned (.agg #[.int .i64 98, .slice none 0 0, .slice A n c]) ∧ OH w' (w.heap.size + 1 + 1) (w.heap.size + 1) (.slice A n c) (outP P 7) ∧ Below w.heap.size w w' := by
  have HKR : Hid (∀ W, Calls Tryd.prog 50 #[.int .i64 1] W fun e w' => e = .returned (.bool false) ∧ W = w') := fun W => by
    have h := rrec_any 1 (by omega) W
    rw [show recK 1 = false from by unfold recK; simp; try omega] at h
    exact h
  have hkb : kindB 1 L R = [UInt8.ofNat 1] := by
    unfold kindB
    rw [show recK ((1 : Nat) : Int) = false from by unfold recK; simp; try omega]
    rfl


  have HRL := Lib.hid (rM_pos rules hr)
  have HCR := Lib.hid (chkR_cnt rules hr).2
  have HT64 := Lib.hid fun (W : World) => two_any I hI W
  have HTZ := Lib.hid fun (W : World) => two_any Z hZ W
  have HRN := Lib.hid fun (W : World) (hW : Below w.heap.size w W) => rencr_fs rules _ W (hk1.on hW) (fun k h => Nat.le_trans (HCR.out k h) (by omega))
  unfold EnrF at HRN
  have HP0 : Hid (P[0]? = some (130, kindB 1 L R)) := by show _ = _; rw [hP]; rfl
  have HP1 : Hid (P[1]? = some (131, putL I 2)) := by show _ = _; rw [hP]; rfl
  have HP2 : Hid (P[2]? = some (132, name)) := by show _ = _; rw [hP]; rfl
  have HP3 : Hid (P[3]? = some (128, [])) := by show _ = _; rw [hP]; rfl
  have HP4 : Hid (P[4]? = some (136, [])) := by show _ = _; rw [hP]; rfl
  have HP5 : Hid (P[5]? = some (138, [UInt8.ofNat ST])) := by show _ = _; rw [hP]; rfl
  have HP6 : Hid (P[6]? = some (134, rM rules)) := by show _ = _; rw [hP]; rfl
  have HO0 : Hid (outP P 0 = []) := by show _ = _; unfold outP; rfl
  have HPL := Lib.hid fun k => outP_len P k
  have HNM := Lib.hid hn1
  have HNA : Hid (0 < name.length → ∃ b, (Value.slice A1 name.length c1).ownBlock = some b ∧ b < w.heap.size) := fun hp => by
    obtain ⟨A, c, hv, _, _, h3⟩ := hn1
    obtain ⟨rfl, _, rfl⟩ := Value.slice.inj hv
    obtain ⟨b, o, rfl, hb, _⟩ := h3 hp
    exact ⟨b, rfl, hb⟩
  have hl2 : 0 < (putL I 2).length := by rw [putL_length]; omega
  have hl2z : 0 < (putL Z 2).length := by rw [putL_length]; omega
  have HLI := Lib.hid (putL_length I 2)
  have HLZ := Lib.hid (putL_length Z 2)
  have hbk : ((1 : Nat) : Int) = 1 := rfl
  clear hn1 hk1 hP hr HCR hbk
  generalize hnl : name.length = nl at *
  generalize hrl : rules.length = rl at *
  have HNL := Lib.hid hnl.symm
  clear hnl hrl
  have hbx := (alloc2_below w (Obj.cells #[.int .i64 (I : Int), .int .i64 1, .slice A1 nl c1, .int .i64 0, .int .i64 (Z : Int), .int .i64 (L : Int), .int .i64 (R : Int), .int .i64 (ST : Int), .slice A2 rl c2] 25) (Obj.cells #[.int .i64 0, .slice none 0 0, .slice none 0 0] 53))
  have hb1 := hbx.alloc hbx.size (Obj.cells #[.int .u8 1] 5)
  have hz00 : (w.alloc (Obj.cells #[.int .i64 (I : Int), .int .i64 1, .slice A1 nl c1, .int .i64 0, .int .i64 (Z : Int), .int .i64 (L : Int), .int .i64 (R : Int), .int .i64 (ST : Int), .slice A2 rl c2] 25)).heap.size = w.heap.size + 1 := alloc_size _ _
  have hz0 : ((w.alloc (Obj.cells #[.int .i64 (I : Int), .int .i64 1, .slice A1 nl c1, .int .i64 0, .int .i64 (Z : Int), .int .i64 (L : Int), .int .i64 (R : Int), .int .i64 (ST : Int), .slice A2 rl c2] 25)).alloc (Obj.cells #[.int .i64 0, .slice none 0 0, .slice none 0 0] 53)).heap.size = w.heap.size + 1 + 1 := by rw [alloc_size, alloc_size]
  have hz1 : (((w.alloc (Obj.cells #[.int .i64 (I : Int), .int .i64 1, .slice A1 nl c1, .int .i64 0, .int .i64 (Z : Int), .int .i64 (L : Int), .int .i64 (R : Int), .int .i64 (ST : Int), .slice A2 rl c2] 25)).alloc (Obj.cells #[.int .i64 0, .slice none 0 0, .slice none 0 0] 53)).alloc (Obj.cells #[.int .u8 1] 5)).heap.size = w.heap.size + 1 + 1 + 1 := by rw [alloc_size, alloc_size, alloc_size]
  have hnb := (Below.heap_alloc ((w.alloc (Obj.cells #[.int .i64 (I : Int), .int .i64 1, .slice A1 nl c1, .int .i64 0, .int .i64 (Z : Int), .int .i64 (L : Int), .int .i64 (R : Int), .int .i64 (ST : Int), .slice A2 rl c2] 25)).alloc (Obj.cells #[.int .i64 0, .slice none 0 0, .slice none 0 0] 53)) (Obj.cells #[.int .u8 1] 5) w.heap.size (by rw [hz0]; omega)).trans ((Below.heap_alloc (w.alloc (Obj.cells #[.int .i64 (I : Int), .int .i64 1, .slice A1 nl c1, .int .i64 0, .int .i64 (Z : Int), .int .i64 (L : Int), .int .i64 (R : Int), .int .i64 (ST : Int), .slice A2 rl c2] 25)) (Obj.cells #[.int .i64 0, .slice none 0 0, .slice none 0 0] 53) w.heap.size (by rw [hz00]; omega)).trans (heap_alloc_new w (Obj.cells #[.int .i64 (I : Int), .int .i64 1, .slice A1 nl c1, .int .i64 0, .int .i64 (Z : Int), .int .i64 (L : Int), .int .i64 (R : Int), .int .i64 (ST : Int), .slice A2 rl c2] 25)))
  have hxb := (Below.heap_alloc ((w.alloc (Obj.cells #[.int .i64 (I : Int), .int .i64 1, .slice A1 nl c1, .int .i64 0, .int .i64 (Z : Int), .int .i64 (L : Int), .int .i64 (R : Int), .int .i64 (ST : Int), .slice A2 rl c2] 25)).alloc (Obj.cells #[.int .i64 0, .slice none 0 0, .slice none 0 0] 53)) (Obj.cells #[.int .u8 1] 5) (w.heap.size + 1) (by rw [hz0]; omega)).trans ((congrArg (fun k => ((w.alloc (Obj.cells #[.int .i64 (I : Int), .int .i64 1, .slice A1 nl c1, .int .i64 0, .int .i64 (Z : Int), .int .i64 (L : Int), .int .i64 (R : Int), .int .i64 (ST : Int), .slice A2 rl c2] 25)).alloc (Obj.cells #[.int .i64 0, .slice none 0 0, .slice none 0 0] 53)).heap[k]?) hz00.symm).trans (heap_alloc_new (w.alloc (Obj.cells #[.int .i64 (I : Int), .int .i64 1, .slice A1 nl c1, .int .i64 0, .int .i64 (Z : Int), .int .i64 (L : Int), .int .i64 (R : Int), .int .i64 (ST : Int), .slice A2 rl c2] 25)) (Obj.cells #[.int .i64 0, .slice none 0 0, .slice none 0 0] 53)))
  have hnk := heap_alloc_new ((w.alloc (Obj.cells #[.int .i64 (I : Int), .int .i64 1, .slice A1 nl c1, .int .i64 0, .int .i64 (Z : Int), .int .i64 (L : Int), .int .i64 (R : Int), .int .i64 (ST : Int), .slice A2 rl c2] 25)).alloc (Obj.cells #[.int .i64 0, .slice none 0 0, .slice none 0 0] 53)) (Obj.cells #[.int .u8 1] 5)
  rw [hz0] at hnk
  have hob := OB.of_cells (w := ((w.alloc (Obj.cells #[.int .i64 (I : Int), .int .i64 1, .slice A1 nl c1, .int .i64 0, .int .i64 (Z : Int), .int .i64 (L : Int), .int .i64 (R : Int), .int .i64 (ST : Int), .slice A2 rl c2] 25)).alloc (Obj.cells #[.int .i64 0, .slice none 0 0, .slice none 0 0] 53)).alloc (Obj.cells #[.int .u8 1] 5)) (base := w.heap.size + 1 + 1) (g := w.heap.size + 1 + 1) (n := 1) (l := [UInt8.ofNat 1]) (Nat.le_refl _) rfl (by unfold maxLen; omega) (by rw [hnk]; simp [bv]; try omega)
  have HB1 := Lib.hid hb1
  have HZ1 := Lib.hid hz1
  have HNB := Lib.hid hnb
  have HXB := Lib.hid hxb
  have HOB := Lib.hid hob
  clear hbx hb1 hz0 hz00 hz1 hnb hxb hnk hob
  go_enter Tryd.func35, Tryd.ntmps35
  go_wp2_with fail
  refine (HKR.out _).mono ?_
  rintro e wz ⟨rfl, rfl⟩
  generalize (((w.alloc (Obj.cells #[.int .i64 (I : Int), .int .i64 1, .slice A1 nl c1, .int .i64 0, .int .i64 (Z : Int), .int .i64 (L : Int), .int .i64 (R : Int), .int .i64 (ST : Int), .slice A2 rl c2] 25)).alloc (Obj.cells #[.int .i64 0, .slice none 0 0, .slice none 0 0] 53)).alloc (Obj.cells #[.int .u8 1] 5)) = w2 at *
  have hz1 : w2.heap.size = w.heap.size + 1 + 1 + 1 := HZ1.out
  have hza : w2.heap.size ≤ w.heap.size + 1 + 1 + 1 := by omega
  have hzb : w.heap.size + 1 + 1 + 1 ≤ w2.heap.size := by omega
  clear hz1 HZ1
  have HZA := Lib.hid hza
  clear hza
  have hlt : w.heap.size < w2.heap.size := by omega
  have f0 := cell_of_row _ _ 0 _ _ _ HNB.out
  have f1 := cell_of_row _ _ 1 _ _ _ HNB.out
  have f2 := cell_of_row _ _ 2 _ _ _ HNB.out
  have f3 := cell_of_row _ _ 3 _ _ _ HNB.out
  have f4 := cell_of_row _ _ 4 _ _ _ HNB.out
  have f5 := cell_of_row _ _ 5 _ _ _ HNB.out
  have f6 := cell_of_row _ _ 6 _ _ _ HNB.out
  have f7 := cell_of_row _ _ 7 _ _ _ HNB.out
  have f8 := cell_of_row _ _ 8 _ _ _ HNB.out
  have HNB2 := HNB
  have HXB2 := HXB
  have HB2 := HB1
  have HO2 := HOB
  clear HNB HXB HB1 HOB
  have hs2 : w.heap.size + 1 + 1 + 1 ≤ w2.heap.size := by omega
  have hlt2 : w.heap.size < w2.heap.size := by omega
  go_wp2_with fail
  refine (HT64.out _).mono ?_
  rintro e w3 ⟨v3, rfl, hf3, hb3⟩
  have hf31 := hf3.1
  obtain ⟨A6, c6, rfl, _⟩ := hf31
  rw [HLI.out] at hf3
  rw [HLI.out]
  have hs3 := hb3.size
  have hnb3 := (hb3.block w.heap.size hlt2).trans HNB2.out
  have hba := alloc_below w3 (Obj.cells #[.int .i64 130, (.slice (some ⟨w.heap.size + 1 + 1, 0, none⟩) 1 1), .slice none 0 0, .int .i64 131, .slice A6 2 c6, .slice none 0 0] 53)
  have hna := heap_alloc_new w3 (Obj.cells #[.int .i64 130, (.slice (some ⟨w.heap.size + 1 + 1, 0, none⟩) 1 1), .slice none 0 0, .int .i64 131, .slice A6 2 c6, .slice none 0 0] 53)
  have hfx1 : FX w3 (w.heap.size + 1) (.slice (some ⟨w.heap.size + 1 + 1, 0, none⟩) 1 1) (kindB 1 L R) := by rw [hkb]; exact (FX.ofOB HO2.out (by omega)).on hb3
  have hfx2 : FX w3 (w.heap.size + 1) (.slice A6 2 c6) (putL I 2) := FX.of hf3 (by omega)
  have hoh := OH.two (base := w.heap.size + 1 + 1) (x := w.heap.size + 1) (by omega) (hfx1.on hba) (hfx2.on hba)
    (fun hp e => by have := (HO2.out.ltB w3.heap.size e).2; omega)
    (fun hp e => by
      obtain ⟨A, c, hv, _, _, h3⟩ := hf3.1
      obtain ⟨rfl, _, rfl⟩ := Value.slice.inj hv
      obtain ⟨b, o, rfl, hb, _⟩ := h3 hp
      simp only [Value.ownBlock, Option.some.injEq] at e
      omega) hna
  have hbe := (hba.block w.heap.size (by omega)).trans hnb3
  have hxe := (hba.block (w.heap.size + 1) (by omega)).trans ((hb3.block (w.heap.size + 1) (by omega)).trans HXB2.out)
  have HB4 := Lib.hid (HB2.out.trans ((hb3.trans (hba.mono hs3)).mono (by omega)))
  have HO4 : Hid (OH (w3.alloc (Obj.cells #[.int .i64 130, (.slice (some ⟨w.heap.size + 1 + 1, 0, none⟩) 1 1), .slice none 0 0, .int .i64 131, .slice A6 2 c6, .slice none 0 0] 53)) (w.heap.size + 1 + 1) (w.heap.size + 1) (.slice (some ⟨w3.heap.size, 0, none⟩) 2 2) (outP P 2)) := by
    show OH _ _ _ _ _
    rw [show outP P 2 = [(130, kindB 1 L R), (131, putL I 2)] from by
      rw [outP_yes HP1.out hl2, outP_yes HP0.out (kindB_len 1 L R).1, HO0.out]; rfl]
    exact hoh
  have hz4 := alloc_size w3 (Obj.cells #[.int .i64 130, (.slice (some ⟨w.heap.size + 1 + 1, 0, none⟩) 1 1), .slice none 0 0, .int .i64 131, .slice A6 2 c6, .slice none 0 0] 53)
  have HZ4 : Hid (w3.heap.size + 1 ≤ (w3.alloc (Obj.cells #[.int .i64 130, (.slice (some ⟨w.heap.size + 1 + 1, 0, none⟩) 1 1), .slice none 0 0, .int .i64 131, .slice A6 2 c6, .slice none 0 0] 53)).heap.size) := Nat.le_of_eq hz4.symm
  have HNB4 := Lib.hid hbe
  have HXB4 := Lib.hid hxe
  have HS4 : Hid (w.heap.size + 1 + 1 < w3.heap.size + 1) := by show _ < _; omega
  clear hf3 hb3 hnb3 hba hna hfx1 hfx2 hoh hbe hxe hz4 HO2 HB2 HNB2 HXB2 hs2 hkb
  clear f0 f1 f2 f3 f4 f5 f6 f7 f8
  have hlt4 : w.heap.size + 1 + 1 < (w3.alloc (Obj.cells #[.int .i64 130, (.slice (some ⟨w.heap.size + 1 + 1, 0, none⟩) 1 1), .slice none 0 0, .int .i64 131, .slice A6 2 c6, .slice none 0 0] 53)).heap.size := Nat.lt_of_lt_of_le HS4.out HZ4.out
  have hlt4b : w.heap.size < (w3.alloc (Obj.cells #[.int .i64 130, (.slice (some ⟨w.heap.size + 1 + 1, 0, none⟩) 1 1), .slice none 0 0, .int .i64 131, .slice A6 2 c6, .slice none 0 0] 53)).heap.size := by omega
  have hlt4c : w.heap.size + 1 < (w3.alloc (Obj.cells #[.int .i64 130, (.slice (some ⟨w.heap.size + 1 + 1, 0, none⟩) 1 1), .slice none 0 0, .int .i64 131, .slice A6 2 c6, .slice none 0 0] 53)).heap.size := by omega
  clear HZ4 HS4
  have HLN : Hid ((outP P 2).length = 2) := by show _ = _; rw [outP_yes HP1.out hl2, outP_yes HP0.out (kindB_len 1 L R).1, HO0.out]; rfl
  have f0 := cell_of_row _ _ 0 _ _ _ HNB4.out
  have f1 := cell_of_row _ _ 1 _ _ _ HNB4.out
  have f2 := cell_of_row _ _ 2 _ _ _ HNB4.out
  have f3 := cell_of_row _ _ 3 _ _ _ HNB4.out
  have f4 := cell_of_row _ _ 4 _ _ _ HNB4.out
  have f5 := cell_of_row _ _ 5 _ _ _ HNB4.out
  have f6 := cell_of_row _ _ 6 _ _ _ HNB4.out
  have f7 := cell_of_row _ _ 7 _ _ _ HNB4.out
  have f8 := cell_of_row _ _ 8 _ _ _ HNB4.out
  by_cases hnz : 0 < nl
  · have hni : (0 : Int) < (nl : Int) := by omega
    have hnd : decide ((0 : Int) < (nl : Int)) = true := decide_eq_true hni
    have HPO : Hid (0 < name.length) := by show _ < _; rw [← HNL.out]; exact hnz
    have hba5 := alloc_below (w3.alloc (Obj.cells #[.int .i64 130, (.slice (some ⟨w.heap.size + 1 + 1, 0, none⟩) 1 1), .slice none 0 0, .int .i64 131, .slice A6 2 c6, .slice none 0 0] 53)) (Obj.cells #[.int .i64 132, .slice A1 nl c1, .slice none 0 0] 53)
    have HO7 := Lib.hid (HO4.out.later hba5)
    have HF7 := Lib.hid (FX.on ((⟨HNM.out.on HB4.out, fun hp => by obtain ⟨b, e1, e2⟩ := HNA.out (by rw [HNL.out]; exact hp); exact ⟨b, e1, by omega⟩⟩ : FX (w3.alloc (Obj.cells #[.int .i64 130, (.slice (some ⟨w.heap.size + 1 + 1, 0, none⟩) 1 1), .slice none 0 0, .int .i64 131, .slice A6 2 c6, .slice none 0 0] 53)) (w.heap.size + 1) (.slice A1 nl c1) name)) hba5)
    have HNE := Lib.hid (show 0 < (name : List UInt8).length → (Value.slice A1 nl c1).ownBlock ≠ (Value.slice (some ⟨w3.heap.size, 0, none⟩) 2 2).ownBlock from fun hp e => by obtain ⟨bb, e1, e2⟩ := HNA.out (by rw [HNL.out]; exact hp); have e3 := (HO4.out.ltB bb (e.symm.trans e1)).1; omega)
    have hbz : w.heap.size + 1 + 1 ≤ ((w3.alloc (Obj.cells #[.int .i64 130, (.slice (some ⟨w.heap.size + 1 + 1, 0, none⟩) 1 1), .slice none 0 0, .int .i64 131, .slice A6 2 c6, .slice none 0 0] 53)).alloc (Obj.cells #[.int .i64 132, .slice A1 nl c1, .slice none 0 0] 53)).heap.size := by have hq1 := hlt4; (try simp only [alloc_size] at hq1); simp only [alloc_size]; omega
    have HBZ := Lib.hid hbz
    clear hbz
    have HL6 : Hid ((outP P 2).length ≤ 1000) := Nat.le_trans (HPL.out 2) (by omega)
    have HOY := Lib.hid (outP_yes HP2.out HPO.out)
    have HLE : Hid ((outP P 2 ++ [(132, name)]).length = 2 + 1) := by show _ = _; rw [List.length_append, HLN.out]; rfl
    have HBA5 := Lib.hid hba5
    clear hba5
    have hnob := heap_alloc_new (w3.alloc (Obj.cells #[.int .i64 130, (.slice (some ⟨w.heap.size + 1 + 1, 0, none⟩) 1 1), .slice none 0 0, .int .i64 131, .slice A6 2 c6, .slice none 0 0] 53)) (Obj.cells #[.int .i64 132, .slice A1 nl c1, .slice none 0 0] 53)
    rw [show (w3.alloc (Obj.cells #[.int .i64 130, (.slice (some ⟨w.heap.size + 1 + 1, 0, none⟩) 1 1), .slice none 0 0, .int .i64 131, .slice A6 2 c6, .slice none 0 0] 53)).heap.size = w3.heap.size + 1 from by simp only [alloc_size]] at hnob
    have HNOB := Lib.hid hnob
    clear hnob
    go_wp2_with (at_builtin; refine wpList_appH rfl _ _ rfl (w.heap.size + 1 + 1) (w.heap.size + 1) _ (outP P 2) 132 _ name (w3.heap.size + 1) rfl rfl HO7.out HF7.out HNE.out HNOB.out HL6.out HBZ.out ?_; intro v7 w8 ho7 hb7; refine Hid.out ?_)
    have hbw : Below (w.heap.size + 1 + 1) (w3.alloc (Obj.cells #[.int .i64 130, (.slice (some ⟨w.heap.size + 1 + 1, 0, none⟩) 1 1), .slice none 0 0, .int .i64 131, .slice A6 2 c6, .slice none 0 0] 53)) w8 := (HBA5.out.mono (by omega)).trans hb7
    have HNBn := Lib.hid ((hbw.block w.heap.size (by omega)).trans HNB4.out)
    have HXBn := Lib.hid ((hbw.block (w.heap.size + 1) (by omega)).trans HXB4.out)
    have HBn := Lib.hid (HB4.out.trans (hbw.mono (by omega)))
    have hltn : w.heap.size + 1 + 1 < w8.heap.size := by have := hbw.size; omega
    have hltnb : w.heap.size < w8.heap.size := by omega
    have hltnc : w.heap.size + 1 < w8.heap.size := by omega
    obtain ⟨A7, c7, hv7⟩ := ho7.value
    rw [HLE.out] at hv7
    subst hv7
    rw [← HOY.out] at ho7
    have HOn := Lib.hid ho7
    have HLNn : Hid ((outP P 3).length = 2 + 1) := by show _ = _; rw [HOY.out]; exact HLE.out
    clear ho7 hb7 hbw HO7 HF7 HNE HBZ HL6 HOY HLE HBA5 HNOB f0 f1 f2 f3 f4 f5 f6 f7 f8
    have f0 := cell_of_row _ _ 0 _ _ _ HNBn.out
    have f1 := cell_of_row _ _ 1 _ _ _ HNBn.out
    have f2 := cell_of_row _ _ 2 _ _ _ HNBn.out
    have f3 := cell_of_row _ _ 3 _ _ _ HNBn.out
    have f4 := cell_of_row _ _ 4 _ _ _ HNBn.out
    have f5 := cell_of_row _ _ 5 _ _ _ HNBn.out
    have f6 := cell_of_row _ _ 6 _ _ _ HNBn.out
    have f7 := cell_of_row _ _ 7 _ _ _ HNBn.out
    have f8 := cell_of_row _ _ 8 _ _ _ HNBn.out
    refine Lib.hid ?_
    obtain ⟨nn2, hnn2⟩ : ∃ z, z = 2 + 1 := ⟨_, rfl⟩
    have HO_3 := HOn
    clear HOn
    have HB_3 := HBn
    clear HBn
    have HNB_3 := HNBn
    clear HNBn
    have HXB_3 := HXBn
    clear HXBn
    have HLN_3 := HLNn
    clear HLNn
    clear hnn2 nn2
    have HOz : Hid (outP P 4 = outP P 3) := outP_no HP3.out rfl
    have HOq := HO_3
    rw [← HOz.out] at HOq
    have HLq := HLN_3
    rw [← HOz.out] at HLq
    have HO_4 := HOq
    have HLN_4 := HLq
    clear HOq HLq HOz
    have HOz : Hid (outP P 5 = outP P 4) := outP_no HP4.out rfl
    have HOq := HO_4
    rw [← HOz.out] at HOq
    have HLq := HLN_4
    rw [← HOz.out] at HLq
    have HO_5 := HOq
    have HLN_5 := HLq
    clear HOq HLq HOz
    have hbb := alloc_below w8 (Obj.cells #[.int .u8 (ST : Int)] 5)
    have hff := FS.new w8 #[.int .u8 (ST : Int)] [UInt8.ofNat ST] (by simp [bv, Nat.mod_eq_of_lt hST]) (by simp)
    obtain ⟨wb, hwb⟩ : ∃ z, z = w8.alloc (Obj.cells #[.int .u8 (ST : Int)] 5) := ⟨_, rfl⟩
    have hzb2 : wb.heap.size = w8.heap.size + 1 := by rw [hwb]; exact alloc_size _ _
    rw [← hwb] at hbb hff
    have HOc := Lib.hid (HO_5.out.later hbb)
    have HF5 := Lib.hid hff
    have HNBc := Lib.hid ((hbb.block w.heap.size (by omega)).trans HNB_3.out)
    have HXBc := Lib.hid ((hbb.block (w.heap.size + 1) (by omega)).trans HXB_3.out)
    have HBc := Lib.hid (HB_3.out.trans (hbb.mono (by omega)))
    have hwc : w.heap.size + 1 + 1 < wb.heap.size := by omega
    subst hwb
    have HZB := Lib.hid hzb2
    clear hbb hff hzb2
    have hba5 := alloc_below (w8.alloc (Obj.cells #[.int .u8 (ST : Int)] 5)) (Obj.cells #[.int .i64 138, .slice (some ⟨w8.heap.size, 0, none⟩) 1 1, .slice none 0 0] 53)
    have HO7 := Lib.hid (HOc.out.later hba5)
    have HF7 := Lib.hid (FX.on (FX.of HF5.out (x := w.heap.size + 1) (by omega)) hba5)
    have HNE := Lib.hid (show 0 < ([UInt8.ofNat ST] : List UInt8).length → (Value.slice (some ⟨w8.heap.size, 0, none⟩) 1 1).ownBlock ≠ (Value.slice A7 3 c7).ownBlock from fun hp e => by have e3 := (HO_5.out.ltB (w8.heap.size) e.symm).2; (try simp only [alloc_size] at e3); omega)
    have hbz : w.heap.size + 1 + 1 ≤ ((w8.alloc (Obj.cells #[.int .u8 (ST : Int)] 5)).alloc (Obj.cells #[.int .i64 138, .slice (some ⟨w8.heap.size, 0, none⟩) 1 1, .slice none 0 0] 53)).heap.size := by have hq1 := hlt4; (try simp only [alloc_size] at hq1); simp only [alloc_size]; omega
    have HBZ := Lib.hid hbz
    clear hbz
    have HL6 : Hid ((outP P 5).length ≤ 1000) := Nat.le_trans (HPL.out 5) (by omega)
    have HOY := Lib.hid (outP_yes HP5.out (by simp))
    have HLE : Hid ((outP P 5 ++ [(138, [UInt8.ofNat ST])]).length = 3 + 1) := by show _ = _; rw [List.length_append, HLN_5.out]; rfl
    have HBA5 := Lib.hid hba5
    clear hba5
    have hnob := heap_alloc_new (w8.alloc (Obj.cells #[.int .u8 (ST : Int)] 5)) (Obj.cells #[.int .i64 138, .slice (some ⟨w8.heap.size, 0, none⟩) 1 1, .slice none 0 0] 53)
    rw [show (w8.alloc (Obj.cells #[.int .u8 (ST : Int)] 5)).heap.size = w8.heap.size + 1 from by simp only [alloc_size]] at hnob
    have HNOB := Lib.hid hnob
    clear hnob
    go_wp2_with (at_builtin; refine wpList_appH rfl _ _ rfl (w.heap.size + 1 + 1) (w.heap.size + 1) _ (outP P 5) 138 _ [UInt8.ofNat ST] (w8.heap.size + 1) rfl rfl HO7.out HF7.out HNE.out HNOB.out HL6.out HBZ.out ?_; intro v7 w11 ho7 hb7; refine Hid.out ?_)
    have hbw : Below (w.heap.size + 1 + 1) (w8.alloc (Obj.cells #[.int .u8 (ST : Int)] 5)) w11 := (HBA5.out.mono (by omega)).trans hb7
    have HNBn := Lib.hid ((hbw.block w.heap.size (by omega)).trans HNBc.out)
    have HXBn := Lib.hid ((hbw.block (w.heap.size + 1) (by omega)).trans HXBc.out)
    have HBn := Lib.hid (HBc.out.trans (hbw.mono (by omega)))
    have hltn : w.heap.size + 1 + 1 < w11.heap.size := by have := hbw.size; omega
    have hltnb : w.heap.size < w11.heap.size := by omega
    have hltnc : w.heap.size + 1 < w11.heap.size := by omega
    obtain ⟨A7, c7, hv7⟩ := ho7.value
    rw [HLE.out] at hv7
    subst hv7
    rw [← HOY.out] at ho7
    have HOn := Lib.hid ho7
    have HLNn : Hid ((outP P 6).length = 3 + 1) := by show _ = _; rw [HOY.out]; exact HLE.out
    clear ho7 hb7 hbw HO7 HF7 HNE HBZ HL6 HOY HLE HBA5 HNOB f0 f1 f2 f3 f4 f5 f6 f7 f8
    have f0 := cell_of_row _ _ 0 _ _ _ HNBn.out
    have f1 := cell_of_row _ _ 1 _ _ _ HNBn.out
    have f2 := cell_of_row _ _ 2 _ _ _ HNBn.out
    have f3 := cell_of_row _ _ 3 _ _ _ HNBn.out
    have f4 := cell_of_row _ _ 4 _ _ _ HNBn.out
    have f5 := cell_of_row _ _ 5 _ _ _ HNBn.out
    have f6 := cell_of_row _ _ 6 _ _ _ HNBn.out
    have f7 := cell_of_row _ _ 7 _ _ _ HNBn.out
    have f8 := cell_of_row _ _ 8 _ _ _ HNBn.out
    refine Lib.hid ?_
    obtain ⟨nn5, hnn5⟩ : ∃ z, z = 3 + 1 := ⟨_, rfl⟩
    have HO_6 := HOn
    clear HOn
    have HB_6 := HBn
    clear HBn
    have HNB_6 := HNBn
    clear HNBn
    have HXB_6 := HXBn
    clear HXBn
    have HLN_6 := HLNn
    clear HLNn
    clear hnn5 nn5
    by_cases hrz : 0 < rl
    · have hri : (0 : Int) < (rl : Int) := by omega
      have hrd : decide ((0 : Int) < (rl : Int)) = true := decide_eq_true hri
      have hpo := HRL.out.1 hrz
      go_wp2_with fail
      refine (HRN.out _ HB_6.out).mono ?_
      rintro e ww ⟨v5, rfl, hf5, hb5⟩
      have hf51 := hf5.1
      obtain ⟨A8, c8, rfl, _⟩ := hf51
      have HOc := Lib.hid (HO_6.out.later hb5)
      have hsc := hb5.size
      have HF5 := Lib.hid hf5
      have HNBc := Lib.hid ((hb5.block w.heap.size (by omega)).trans HNB_6.out)
      have HXBc := Lib.hid ((hb5.block (w.heap.size + 1) (by omega)).trans HXB_6.out)
      have HBc := Lib.hid (HB_6.out.trans (hb5.mono (by omega)))
      clear hf5 hb5
      have hwc : w.heap.size + 1 + 1 < ww.heap.size := by omega
      generalize rM rules = LM at *
      have hba5 := alloc_below ww (Obj.cells #[.int .i64 134, .slice A8 LM.length c8, .slice none 0 0] 53)
      have HO7 := Lib.hid (HOc.out.later hba5)
      have HF7 := Lib.hid (FX.on (FX.of HF5.out (x := w.heap.size + 1) (by omega)) hba5)
      have HNE := Lib.hid (show 0 < (LM : List UInt8).length → (Value.slice A8 LM.length c8).ownBlock ≠ (Value.slice A7 4 c7).ownBlock from fun hp e => by obtain ⟨bb, e1, e2⟩ := HF5.out.2.out hp; have e3 := (HO_6.out.ltB bb (e.symm.trans e1)).2; omega)
      have hbz : w.heap.size + 1 + 1 ≤ (ww.alloc (Obj.cells #[.int .i64 134, .slice A8 LM.length c8, .slice none 0 0] 53)).heap.size := by have hq1 := hlt4; (try simp only [alloc_size] at hq1); simp only [alloc_size]; omega
      have HBZ := Lib.hid hbz
      clear hbz
      have HL6 : Hid ((outP P 6).length ≤ 1000) := Nat.le_trans (HPL.out 6) (by omega)
      have HOY := Lib.hid (outP_yes HP6.out hpo)
      have HLE : Hid ((outP P 6 ++ [(134, LM)]).length = 4 + 1) := by show _ = _; rw [List.length_append, HLN_6.out]; rfl
      have HBA5 := Lib.hid hba5
      clear hba5
      have hnob := heap_alloc_new ww (Obj.cells #[.int .i64 134, .slice A8 LM.length c8, .slice none 0 0] 53)
      have HNOB := Lib.hid hnob
      clear hnob
      go_wp2_with (at_builtin; refine wpList_appH rfl _ _ rfl (w.heap.size + 1 + 1) (w.heap.size + 1) _ (outP P 6) 134 _ LM (ww.heap.size) rfl rfl HO7.out HF7.out HNE.out HNOB.out HL6.out HBZ.out ?_; intro v7 w12 ho7 hb7; refine Hid.out ?_)
      have hbw : Below (w.heap.size + 1 + 1) ww w12 := (HBA5.out.mono (by omega)).trans hb7
      have HNBn := Lib.hid ((hbw.block w.heap.size (by omega)).trans HNBc.out)
      have HXBn := Lib.hid ((hbw.block (w.heap.size + 1) (by omega)).trans HXBc.out)
      have HBn := Lib.hid (HBc.out.trans (hbw.mono (by omega)))
      have hltn : w.heap.size + 1 + 1 < w12.heap.size := by have := hbw.size; omega
      have hltnb : w.heap.size < w12.heap.size := by omega
      have hltnc : w.heap.size + 1 < w12.heap.size := by omega
      obtain ⟨A7, c7, hv7⟩ := ho7.value
      rw [HLE.out] at hv7
      subst hv7
      rw [← HOY.out] at ho7
      have HOn := Lib.hid ho7
      have HLNn : Hid ((outP P 7).length = 4 + 1) := by show _ = _; rw [HOY.out]; exact HLE.out
      clear ho7 hb7 hbw HO7 HF7 HNE HBZ HL6 HOY HLE HBA5 HNOB f0 f1 f2 f3 f4 f5 f6 f7 f8
      have f0 := cell_of_row _ _ 0 _ _ _ HNBn.out
      have f1 := cell_of_row _ _ 1 _ _ _ HNBn.out
      have f2 := cell_of_row _ _ 2 _ _ _ HNBn.out
      have f3 := cell_of_row _ _ 3 _ _ _ HNBn.out
      have f4 := cell_of_row _ _ 4 _ _ _ HNBn.out
      have f5 := cell_of_row _ _ 5 _ _ _ HNBn.out
      have f6 := cell_of_row _ _ 6 _ _ _ HNBn.out
      have f7 := cell_of_row _ _ 7 _ _ _ HNBn.out
      have f8 := cell_of_row _ _ 8 _ _ _ HNBn.out
      refine Lib.hid ?_
      obtain ⟨nn6, hnn6⟩ : ∃ z, z = 4 + 1 := ⟨_, rfl⟩
      have HO_7 := HOn
      clear HOn
      have HB_7 := HBn
      clear HBn
      have HNB_7 := HNBn
      clear HNBn
      have HXB_7 := HXBn
      clear HXBn
      have HLN_7 := HLNn
      clear HLNn
      clear hnn6 nn6
      have x0 := cell_of_row _ _ 0 _ _ _ HXB_7.out
      have y0 := frozen_of_row _ _ 0 _ _ HXB_7.out
      have x1 := cell_of_row _ _ 1 _ _ _ HXB_7.out
      have y1 := frozen_of_row _ _ 1 _ _ HXB_7.out
      have x2 := cell_of_row _ _ 2 _ _ _ HXB_7.out
      have y2 := frozen_of_row _ _ 2 _ _ HXB_7.out
      go_wp2_with fail
      have hkb := (((Kb.refl (w.heap.size + 1) w12).set 0 (.int .i64 98)).set 1 (.slice none 0 0)).set 2 (.slice A7 5 c7)
      have hres : (((w12.setCell ⟨w.heap.size + 1, 0, none⟩ (.int .i64 98)).setCell ⟨w.heap.size + 1, 1, none⟩ (.slice none 0 0)).setCell ⟨w.heap.size + 1, 2, none⟩ (.slice A7 5 c7)).heap[w.heap.size + 1]? = some (.cells #[.int .i64 98, .slice none 0 0, .slice A7 5 c7] 53 (0, 0)) := by rw [heap_set_row (heap_set_row (heap_set_row HXB_7.out))]; rfl
      exact bodyPost_ret (results_cell1 rfl _ _ (w.heap.size + 1) 53 _ (0, 0) _ rfl hres Tryd.underlying53 rfl (by kernel_rfl)) rfl ⟨_, _, _, rfl, ((HO_7.out.set (by omega) _).set (by omega) _).set (by omega) _, HB_7.out.trans (hkb.below (B := w.heap.size) (by omega) (by omega))⟩
    · have hz0 : rl = 0 := by omega
      have HEM := Lib.hid (HRL.out.2 hz0)
      subst hz0
      have HOz : Hid (outP P 7 = outP P 6) := outP_no HP6.out HEM.out
      have HOq := HO_6
      rw [← HOz.out] at HOq
      have HLq := HLN_6
      rw [← HOz.out] at HLq
      have HO_7 := HOq
      have HLN_7 := HLq
      clear HOq HLq HOz
      have x0 := cell_of_row _ _ 0 _ _ _ HXB_6.out
      have y0 := frozen_of_row _ _ 0 _ _ HXB_6.out
      have x1 := cell_of_row _ _ 1 _ _ _ HXB_6.out
      have y1 := frozen_of_row _ _ 1 _ _ HXB_6.out
      have x2 := cell_of_row _ _ 2 _ _ _ HXB_6.out
      have y2 := frozen_of_row _ _ 2 _ _ HXB_6.out
      go_wp2_with fail
      have hkb := (((Kb.refl (w.heap.size + 1) w11).set 0 (.int .i64 98)).set 1 (.slice none 0 0)).set 2 (.slice A7 4 c7)
      have hres : (((w11.setCell ⟨w.heap.size + 1, 0, none⟩ (.int .i64 98)).setCell ⟨w.heap.size + 1, 1, none⟩ (.slice none 0 0)).setCell ⟨w.heap.size + 1, 2, none⟩ (.slice A7 4 c7)).heap[w.heap.size + 1]? = some (.cells #[.int .i64 98, .slice none 0 0, .slice A7 4 c7] 53 (0, 0)) := by rw [heap_set_row (heap_set_row (heap_set_row HXB_6.out))]; rfl
      exact bodyPost_ret (results_cell1 rfl _ _ (w.heap.size + 1) 53 _ (0, 0) _ rfl hres Tryd.underlying53 rfl (by kernel_rfl)) rfl ⟨_, _, _, rfl, ((HO_7.out.set (by omega) _).set (by omega) _).set (by omega) _, HB_6.out.trans (hkb.below (B := w.heap.size) (by omega) (by omega))⟩
  · have hz0 : nl = 0 := by omega
    subst hz0
    have HOz : Hid (outP P 3 = outP P 2) := outP_no HP2.out (List.length_eq_zero_iff.1 HNL.out.symm)
    have HOq := HO4
    rw [← HOz.out] at HOq
    have HLq := HLN
    rw [← HOz.out] at HLq
    have HO_3 := HOq
    have HLN_3 := HLq
    clear HOq HLq HOz
    have HOz : Hid (outP P 4 = outP P 3) := outP_no HP3.out rfl
    have HOq := HO_3
    rw [← HOz.out] at HOq
    have HLq := HLN_3
    rw [← HOz.out] at HLq
    have HO_4 := HOq
    have HLN_4 := HLq
    clear HOq HLq HOz
    have HOz : Hid (outP P 5 = outP P 4) := outP_no HP4.out rfl
    have HOq := HO_4
    rw [← HOz.out] at HOq
    have HLq := HLN_4
    rw [← HOz.out] at HLq
    have HO_5 := HOq
    have HLN_5 := HLq
    clear HOq HLq HOz
    have hbb := alloc_below (w3.alloc (Obj.cells #[.int .i64 130, (.slice (some ⟨w.heap.size + 1 + 1, 0, none⟩) 1 1), .slice none 0 0, .int .i64 131, .slice A6 2 c6, .slice none 0 0] 53)) (Obj.cells #[.int .u8 (ST : Int)] 5)
    have hff := FS.new (w3.alloc (Obj.cells #[.int .i64 130, (.slice (some ⟨w.heap.size + 1 + 1, 0, none⟩) 1 1), .slice none 0 0, .int .i64 131, .slice A6 2 c6, .slice none 0 0] 53)) #[.int .u8 (ST : Int)] [UInt8.ofNat ST] (by simp [bv, Nat.mod_eq_of_lt hST]) (by simp)
    obtain ⟨wb, hwb⟩ : ∃ z, z = (w3.alloc (Obj.cells #[.int .i64 130, (.slice (some ⟨w.heap.size + 1 + 1, 0, none⟩) 1 1), .slice none 0 0, .int .i64 131, .slice A6 2 c6, .slice none 0 0] 53)).alloc (Obj.cells #[.int .u8 (ST : Int)] 5) := ⟨_, rfl⟩
    have hzb2 : wb.heap.size = (w3.alloc (Obj.cells #[.int .i64 130, (.slice (some ⟨w.heap.size + 1 + 1, 0, none⟩) 1 1), .slice none 0 0, .int .i64 131, .slice A6 2 c6, .slice none 0 0] 53)).heap.size + 1 := by rw [hwb]; exact alloc_size _ _
    rw [show (w3.alloc (Obj.cells #[.int .i64 130, (.slice (some ⟨w.heap.size + 1 + 1, 0, none⟩) 1 1), .slice none 0 0, .int .i64 131, .slice A6 2 c6, .slice none 0 0] 53)).heap.size = w3.heap.size + 1 from by simp only [alloc_size]] at hff hzb2
    rw [← hwb] at hbb hff
    have HOc := Lib.hid (HO_5.out.later hbb)
    have HF5 := Lib.hid hff
    have HNBc := Lib.hid ((hbb.block w.heap.size (by omega)).trans HNB4.out)
    have HXBc := Lib.hid ((hbb.block (w.heap.size + 1) (by omega)).trans HXB4.out)
    have HBc := Lib.hid (HB4.out.trans (hbb.mono (by omega)))
    have hwc : w.heap.size + 1 + 1 < wb.heap.size := by omega
    subst hwb
    have HZB := Lib.hid hzb2
    clear hbb hff hzb2
    have hba5 := alloc_below ((w3.alloc (Obj.cells #[.int .i64 130, (.slice (some ⟨w.heap.size + 1 + 1, 0, none⟩) 1 1), .slice none 0 0, .int .i64 131, .slice A6 2 c6, .slice none 0 0] 53)).alloc (Obj.cells #[.int .u8 (ST : Int)] 5)) (Obj.cells #[.int .i64 138, .slice (some ⟨w3.heap.size + 1, 0, none⟩) 1 1, .slice none 0 0] 53)
    have HO7 := Lib.hid (HOc.out.later hba5)
    have HF7 := Lib.hid (FX.on (FX.of HF5.out (x := w.heap.size + 1) (by omega)) hba5)
    have HNE := Lib.hid (show 0 < ([UInt8.ofNat ST] : List UInt8).length → (Value.slice (some ⟨w3.heap.size + 1, 0, none⟩) 1 1).ownBlock ≠ (Value.slice (some ⟨w3.heap.size, 0, none⟩) 2 2).ownBlock from fun hp e => by have e3 := (HO_5.out.ltB (w3.heap.size + 1) e.symm).2; (try simp only [alloc_size] at e3); omega)
    have hbz : w.heap.size + 1 + 1 ≤ (((w3.alloc (Obj.cells #[.int .i64 130, (.slice (some ⟨w.heap.size + 1 + 1, 0, none⟩) 1 1), .slice none 0 0, .int .i64 131, .slice A6 2 c6, .slice none 0 0] 53)).alloc (Obj.cells #[.int .u8 (ST : Int)] 5)).alloc (Obj.cells #[.int .i64 138, .slice (some ⟨w3.heap.size + 1, 0, none⟩) 1 1, .slice none 0 0] 53)).heap.size := by have hq1 := hlt4; (try simp only [alloc_size] at hq1); simp only [alloc_size]; omega
    have HBZ := Lib.hid hbz
    clear hbz
    have HL6 : Hid ((outP P 5).length ≤ 1000) := Nat.le_trans (HPL.out 5) (by omega)
    have HOY := Lib.hid (outP_yes HP5.out (by simp))
    have HLE : Hid ((outP P 5 ++ [(138, [UInt8.ofNat ST])]).length = 2 + 1) := by show _ = _; rw [List.length_append, HLN_5.out]; rfl
    have HBA5 := Lib.hid hba5
    clear hba5
    have hnob := heap_alloc_new ((w3.alloc (Obj.cells #[.int .i64 130, (.slice (some ⟨w.heap.size + 1 + 1, 0, none⟩) 1 1), .slice none 0 0, .int .i64 131, .slice A6 2 c6, .slice none 0 0] 53)).alloc (Obj.cells #[.int .u8 (ST : Int)] 5)) (Obj.cells #[.int .i64 138, .slice (some ⟨w3.heap.size + 1, 0, none⟩) 1 1, .slice none 0 0] 53)
    rw [show ((w3.alloc (Obj.cells #[.int .i64 130, (.slice (some ⟨w.heap.size + 1 + 1, 0, none⟩) 1 1), .slice none 0 0, .int .i64 131, .slice A6 2 c6, .slice none 0 0] 53)).alloc (Obj.cells #[.int .u8 (ST : Int)] 5)).heap.size = w3.heap.size + 1 + 1 from by simp only [alloc_size]] at hnob
    have HNOB := Lib.hid hnob
    clear hnob
    go_wp2_with (at_builtin; refine wpList_appH rfl _ _ rfl (w.heap.size + 1 + 1) (w.heap.size + 1) _ (outP P 5) 138 _ [UInt8.ofNat ST] (w3.heap.size + 1 + 1) rfl rfl HO7.out HF7.out HNE.out HNOB.out HL6.out HBZ.out ?_; intro v7 w11 ho7 hb7; refine Hid.out ?_)
    have hbw : Below (w.heap.size + 1 + 1) ((w3.alloc (Obj.cells #[.int .i64 130, (.slice (some ⟨w.heap.size + 1 + 1, 0, none⟩) 1 1), .slice none 0 0, .int .i64 131, .slice A6 2 c6, .slice none 0 0] 53)).alloc (Obj.cells #[.int .u8 (ST : Int)] 5)) w11 := (HBA5.out.mono (by omega)).trans hb7
    have HNBn := Lib.hid ((hbw.block w.heap.size (by omega)).trans HNBc.out)
    have HXBn := Lib.hid ((hbw.block (w.heap.size + 1) (by omega)).trans HXBc.out)
    have HBn := Lib.hid (HBc.out.trans (hbw.mono (by omega)))
    have hltn : w.heap.size + 1 + 1 < w11.heap.size := by have := hbw.size; omega
    have hltnb : w.heap.size < w11.heap.size := by omega
    have hltnc : w.heap.size + 1 < w11.heap.size := by omega
    obtain ⟨A7, c7, hv7⟩ := ho7.value
    rw [HLE.out] at hv7
    subst hv7
    rw [← HOY.out] at ho7
    have HOn := Lib.hid ho7
    have HLNn : Hid ((outP P 6).length = 2 + 1) := by show _ = _; rw [HOY.out]; exact HLE.out
    clear ho7 hb7 hbw HO7 HF7 HNE HBZ HL6 HOY HLE HBA5 HNOB f0 f1 f2 f3 f4 f5 f6 f7 f8
    have f0 := cell_of_row _ _ 0 _ _ _ HNBn.out
    have f1 := cell_of_row _ _ 1 _ _ _ HNBn.out
    have f2 := cell_of_row _ _ 2 _ _ _ HNBn.out
    have f3 := cell_of_row _ _ 3 _ _ _ HNBn.out
    have f4 := cell_of_row _ _ 4 _ _ _ HNBn.out
    have f5 := cell_of_row _ _ 5 _ _ _ HNBn.out
    have f6 := cell_of_row _ _ 6 _ _ _ HNBn.out
    have f7 := cell_of_row _ _ 7 _ _ _ HNBn.out
    have f8 := cell_of_row _ _ 8 _ _ _ HNBn.out
    refine Lib.hid ?_
    obtain ⟨nn5, hnn5⟩ : ∃ z, z = 2 + 1 := ⟨_, rfl⟩
    have HO_6 := HOn
    clear HOn
    have HB_6 := HBn
    clear HBn
    have HNB_6 := HNBn
    clear HNBn
    have HXB_6 := HXBn
    clear HXBn
    have HLN_6 := HLNn
    clear HLNn
    clear hnn5 nn5
    by_cases hrz : 0 < rl
    · have hri : (0 : Int) < (rl : Int) := by omega
      have hrd : decide ((0 : Int) < (rl : Int)) = true := decide_eq_true hri
      have hpo := HRL.out.1 hrz
      go_wp2_with fail
      refine (HRN.out _ HB_6.out).mono ?_
      rintro e ww ⟨v5, rfl, hf5, hb5⟩
      have hf51 := hf5.1
      obtain ⟨A8, c8, rfl, _⟩ := hf51
      have HOc := Lib.hid (HO_6.out.later hb5)
      have hsc := hb5.size
      have HF5 := Lib.hid hf5
      have HNBc := Lib.hid ((hb5.block w.heap.size (by omega)).trans HNB_6.out)
      have HXBc := Lib.hid ((hb5.block (w.heap.size + 1) (by omega)).trans HXB_6.out)
      have HBc := Lib.hid (HB_6.out.trans (hb5.mono (by omega)))
      clear hf5 hb5
      have hwc : w.heap.size + 1 + 1 < ww.heap.size := by omega
      generalize rM rules = LM at *
      have hba5 := alloc_below ww (Obj.cells #[.int .i64 134, .slice A8 LM.length c8, .slice none 0 0] 53)
      have HO7 := Lib.hid (HOc.out.later hba5)
      have HF7 := Lib.hid (FX.on (FX.of HF5.out (x := w.heap.size + 1) (by omega)) hba5)
      have HNE := Lib.hid (show 0 < (LM : List UInt8).length → (Value.slice A8 LM.length c8).ownBlock ≠ (Value.slice A7 3 c7).ownBlock from fun hp e => by obtain ⟨bb, e1, e2⟩ := HF5.out.2.out hp; have e3 := (HO_6.out.ltB bb (e.symm.trans e1)).2; omega)
      have hbz : w.heap.size + 1 + 1 ≤ (ww.alloc (Obj.cells #[.int .i64 134, .slice A8 LM.length c8, .slice none 0 0] 53)).heap.size := by have hq1 := hlt4; (try simp only [alloc_size] at hq1); simp only [alloc_size]; omega
      have HBZ := Lib.hid hbz
      clear hbz
      have HL6 : Hid ((outP P 6).length ≤ 1000) := Nat.le_trans (HPL.out 6) (by omega)
      have HOY := Lib.hid (outP_yes HP6.out hpo)
      have HLE : Hid ((outP P 6 ++ [(134, LM)]).length = 3 + 1) := by show _ = _; rw [List.length_append, HLN_6.out]; rfl
      have HBA5 := Lib.hid hba5
      clear hba5
      have hnob := heap_alloc_new ww (Obj.cells #[.int .i64 134, .slice A8 LM.length c8, .slice none 0 0] 53)
      have HNOB := Lib.hid hnob
      clear hnob
      go_wp2_with (at_builtin; refine wpList_appH rfl _ _ rfl (w.heap.size + 1 + 1) (w.heap.size + 1) _ (outP P 6) 134 _ LM (ww.heap.size) rfl rfl HO7.out HF7.out HNE.out HNOB.out HL6.out HBZ.out ?_; intro v7 w12 ho7 hb7; refine Hid.out ?_)
      have hbw : Below (w.heap.size + 1 + 1) ww w12 := (HBA5.out.mono (by omega)).trans hb7
      have HNBn := Lib.hid ((hbw.block w.heap.size (by omega)).trans HNBc.out)
      have HXBn := Lib.hid ((hbw.block (w.heap.size + 1) (by omega)).trans HXBc.out)
      have HBn := Lib.hid (HBc.out.trans (hbw.mono (by omega)))
      have hltn : w.heap.size + 1 + 1 < w12.heap.size := by have := hbw.size; omega
      have hltnb : w.heap.size < w12.heap.size := by omega
      have hltnc : w.heap.size + 1 < w12.heap.size := by omega
      obtain ⟨A7, c7, hv7⟩ := ho7.value
      rw [HLE.out] at hv7
      subst hv7
      rw [← HOY.out] at ho7
      have HOn := Lib.hid ho7
      have HLNn : Hid ((outP P 7).length = 3 + 1) := by show _ = _; rw [HOY.out]; exact HLE.out
      clear ho7 hb7 hbw HO7 HF7 HNE HBZ HL6 HOY HLE HBA5 HNOB f0 f1 f2 f3 f4 f5 f6 f7 f8
      have f0 := cell_of_row _ _ 0 _ _ _ HNBn.out
      have f1 := cell_of_row _ _ 1 _ _ _ HNBn.out
      have f2 := cell_of_row _ _ 2 _ _ _ HNBn.out
      have f3 := cell_of_row _ _ 3 _ _ _ HNBn.out
      have f4 := cell_of_row _ _ 4 _ _ _ HNBn.out
      have f5 := cell_of_row _ _ 5 _ _ _ HNBn.out
      have f6 := cell_of_row _ _ 6 _ _ _ HNBn.out
      have f7 := cell_of_row _ _ 7 _ _ _ HNBn.out
      have f8 := cell_of_row _ _ 8 _ _ _ HNBn.out
      refine Lib.hid ?_
      obtain ⟨nn6, hnn6⟩ : ∃ z, z = 3 + 1 := ⟨_, rfl⟩
      have HO_7 := HOn
      clear HOn
      have HB_7 := HBn
      clear HBn
      have HNB_7 := HNBn
      clear HNBn
      have HXB_7 := HXBn
      clear HXBn
      have HLN_7 := HLNn
      clear HLNn
      clear hnn6 nn6
      have x0 := cell_of_row _ _ 0 _ _ _ HXB_7.out
      have y0 := frozen_of_row _ _ 0 _ _ HXB_7.out
      have x1 := cell_of_row _ _ 1 _ _ _ HXB_7.out
      have y1 := frozen_of_row _ _ 1 _ _ HXB_7.out
      have x2 := cell_of_row _ _ 2 _ _ _ HXB_7.out
      have y2 := frozen_of_row _ _ 2 _ _ HXB_7.out
      go_wp2_with fail
      have hkb := (((Kb.refl (w.heap.size + 1) w12).set 0 (.int .i64 98)).set 1 (.slice none 0 0)).set 2 (.slice A7 4 c7)
      have hres : (((w12.setCell ⟨w.heap.size + 1, 0, none⟩ (.int .i64 98)).setCell ⟨w.heap.size + 1, 1, none⟩ (.slice none 0 0)).setCell ⟨w.heap.size + 1, 2, none⟩ (.slice A7 4 c7)).heap[w.heap.size + 1]? = some (.cells #[.int .i64 98, .slice none 0 0, .slice A7 4 c7] 53 (0, 0)) := by rw [heap_set_row (heap_set_row (heap_set_row HXB_7.out))]; rfl
      exact bodyPost_ret (results_cell1 rfl _ _ (w.heap.size + 1) 53 _ (0, 0) _ rfl hres Tryd.underlying53 rfl (by kernel_rfl)) rfl ⟨_, _, _, rfl, ((HO_7.out.set (by omega) _).set (by omega) _).set (by omega) _, HB_7.out.trans (hkb.below (B := w.heap.size) (by omega) (by omega))⟩
    · have hz0 : rl = 0 := by omega
      have HEM := Lib.hid (HRL.out.2 hz0)
      subst hz0
      have HOz : Hid (outP P 7 = outP P 6) := outP_no HP6.out HEM.out
      have HOq := HO_6
      rw [← HOz.out] at HOq
      have HLq := HLN_6
      rw [← HOz.out] at HLq
      have HO_7 := HOq
      have HLN_7 := HLq
      clear HOq HLq HOz
      have x0 := cell_of_row _ _ 0 _ _ _ HXB_6.out
      have y0 := frozen_of_row _ _ 0 _ _ HXB_6.out
      have x1 := cell_of_row _ _ 1 _ _ _ HXB_6.out
      have y1 := frozen_of_row _ _ 1 _ _ HXB_6.out
      have x2 := cell_of_row _ _ 2 _ _ _ HXB_6.out
      have y2 := frozen_of_row _ _ 2 _ _ HXB_6.out
      go_wp2_with fail
      have hkb := (((Kb.refl (w.heap.size + 1) w11).set 0 (.int .i64 98)).set 1 (.slice none 0 0)).set 2 (.slice A7 3 c7)
      have hres : (((w11.setCell ⟨w.heap.size + 1, 0, none⟩ (.int .i64 98)).setCell ⟨w.heap.size + 1, 1, none⟩ (.slice none 0 0)).setCell ⟨w.heap.size + 1, 2, none⟩ (.slice A7 3 c7)).heap[w.heap.size + 1]? = some (.cells #[.int .i64 98, .slice none 0 0, .slice A7 3 c7] 53 (0, 0)) := by rw [heap_set_row (heap_set_row (heap_set_row HXB_6.out))]; rfl
      exact bodyPost_ret (results_cell1 rfl _ _ (w.heap.size + 1) 53 _ (0, 0) _ rfl hres Tryd.underlying53 rfl (by kernel_rfl)) rfl ⟨_, _, _, rfl, ((HO_7.out.set (by omega) _).set (by omega) _).set (by omega) _, HB_6.out.trans (hkb.below (B := w.heap.size) (by omega) (by omega))⟩



set_option maxRecDepth 100000 in
set_option maxHeartbeats 12800000 in
theorem robj_bin (I S Z L R ST : Nat) (name : List UInt8) (rules : List Rl) (A1 : Option Addr) (c1 : Nat) (A2 : Option Addr) (c2 : Nat) (w : World)
    (hn1 : SL w w.heap.size (.slice A1 name.length c1) name) (hk1 : RL w w.heap.size (.slice A2 rules.length c2) rules) (hr : chkR rules = 0)
    (hI : I < 65536)  (hZ : Z < 65536) (hL : L < 256) (hR : R < 256) (hS : S < 256) (hST : ST < 256) (hn0 : name = [])
    (P : List (Int × List UInt8)) (hP : P = [(130, kindB 2 L R), (131, putL I 2), (132, name), (128, putL Z 2), (136, if (S : Int) = 0 then [] else [UInt8.ofNat S]), (138, [UInt8.ofNat ST]), (134, rM rules)]) :
    Calls Tryd.prog 35 #[.agg #[.int .i64 (I : Int), .int .i64 2, .slice A1 name.length c1, .int .i64 (S : Int), .int .i64 (Z : Int), .int .i64 (L : Int), .int .i64 (R : Int), .int .i64 (ST : Int), .slice A2 rules.length c2]] w fun e w' => ∃ A n c, e = .returned (.agg #[.int .i64 98, .slice none 0 0, .slice A n c]) ∧ OH w' (w.heap.size + 1 + 1) (w.heap.size + 1) (.slice A n c) (outP P 7) ∧ Below w.heap.size w w' := by
  have HKR : Hid (∀ W, Calls Tryd.prog 50 #[.int .i64 2] W fun e w' => e = .returned (.bool false) ∧ W = w') := fun W => by
    have h := rrec_any 2 (by omega) W
    rw [show recK 2 = false from by unfold recK; simp; try omega] at h
    exact h
  have hkb : kindB 2 L R = [UInt8.ofNat 2] := by
    unfold kindB
    rw [show recK ((2 : Nat) : Int) = false from by unfold recK; simp; try omega]
    rfl
  have HN0 := Lib.hid hn0
  clear hn0
  have HRL := Lib.hid (rM_pos rules hr)
  have HCR := Lib.hid (chkR_cnt rules hr).2
  have HT64 := Lib.hid fun (W : World) => two_any I hI W
  have HTZ := Lib.hid fun (W : World) => two_any Z hZ W
  have HRN := Lib.hid fun (W : World) (hW : Below w.heap.size w W) => rencr_fs rules _ W (hk1.on hW) (fun k h => Nat.le_trans (HCR.out k h) (by omega))
  unfold EnrF at HRN
  have HP0 : Hid (P[0]? = some (130, kindB 2 L R)) := by show _ = _; rw [hP]; rfl
  have HP1 : Hid (P[1]? = some (131, putL I 2)) := by show _ = _; rw [hP]; rfl
  have HP2 : Hid (P[2]? = some (132, name)) := by show _ = _; rw [hP]; rfl
  have HP3 : Hid (P[3]? = some (128, putL Z 2)) := by show _ = _; rw [hP]; rfl
  have HP4 : Hid (P[4]? = some (136, if (S : Int) = 0 then [] else [UInt8.ofNat S])) := by show _ = _; rw [hP]; rfl
  have HP5 : Hid (P[5]? = some (138, [UInt8.ofNat ST])) := by show _ = _; rw [hP]; rfl
  have HP6 : Hid (P[6]? = some (134, rM rules)) := by show _ = _; rw [hP]; rfl
  have HO0 : Hid (outP P 0 = []) := by show _ = _; unfold outP; rfl
  have HPL := Lib.hid fun k => outP_len P k
  have HNM := Lib.hid hn1
  have HNA : Hid (0 < name.length → ∃ b, (Value.slice A1 name.length c1).ownBlock = some b ∧ b < w.heap.size) := fun hp => by
    obtain ⟨A, c, hv, _, _, h3⟩ := hn1
    obtain ⟨rfl, _, rfl⟩ := Value.slice.inj hv
    obtain ⟨b, o, rfl, hb, _⟩ := h3 hp
    exact ⟨b, rfl, hb⟩
  have hl2 : 0 < (putL I 2).length := by rw [putL_length]; omega
  have hl2z : 0 < (putL Z 2).length := by rw [putL_length]; omega
  have HLI := Lib.hid (putL_length I 2)
  have HLZ := Lib.hid (putL_length Z 2)
  have hbk : ((2 : Nat) : Int) = 2 := rfl
  clear hn1 hk1 hP hr HCR hbk
  generalize hnl : name.length = nl at *
  generalize hrl : rules.length = rl at *
  have HNL := Lib.hid hnl.symm
  clear hnl hrl
  have hbx := (alloc2_below w (Obj.cells #[.int .i64 (I : Int), .int .i64 2, .slice A1 nl c1, .int .i64 (S : Int), .int .i64 (Z : Int), .int .i64 (L : Int), .int .i64 (R : Int), .int .i64 (ST : Int), .slice A2 rl c2] 25) (Obj.cells #[.int .i64 0, .slice none 0 0, .slice none 0 0] 53))
  have hb1 := hbx.alloc hbx.size (Obj.cells #[.int .u8 2] 5)
  have hz00 : (w.alloc (Obj.cells #[.int .i64 (I : Int), .int .i64 2, .slice A1 nl c1, .int .i64 (S : Int), .int .i64 (Z : Int), .int .i64 (L : Int), .int .i64 (R : Int), .int .i64 (ST : Int), .slice A2 rl c2] 25)).heap.size = w.heap.size + 1 := alloc_size _ _
  have hz0 : ((w.alloc (Obj.cells #[.int .i64 (I : Int), .int .i64 2, .slice A1 nl c1, .int .i64 (S : Int), .int .i64 (Z : Int), .int .i64 (L : Int), .int .i64 (R : Int), .int .i64 (ST : Int), .slice A2 rl c2] 25)).alloc (Obj.cells #[.int .i64 0, .slice none 0 0, .slice none 0 0] 53)).heap.size = w.heap.size + 1 + 1 := by rw [alloc_size, alloc_size]
  have hz1 : (((w.alloc (Obj.cells #[.int .i64 (I : Int), .int .i64 2, .slice A1 nl c1, .int .i64 (S : Int), .int .i64 (Z : Int), .int .i64 (L : Int), .int .i64 (R : Int), .int .i64 (ST : Int), .slice A2 rl c2] 25)).alloc (Obj.cells #[.int .i64 0, .slice none 0 0, .slice none 0 0] 53)).alloc (Obj.cells #[.int .u8 2] 5)).heap.size = w.heap.size + 1 + 1 + 1 := by rw [alloc_size, alloc_size, alloc_size]
  have hnb := (Below.heap_alloc ((w.alloc (Obj.cells #[.int .i64 (I : Int), .int .i64 2, .slice A1 nl c1, .int .i64 (S : Int), .int .i64 (Z : Int), .int .i64 (L : Int), .int .i64 (R : Int), .int .i64 (ST : Int), .slice A2 rl c2] 25)).alloc (Obj.cells #[.int .i64 0, .slice none 0 0, .slice none 0 0] 53)) (Obj.cells #[.int .u8 2] 5) w.heap.size (by rw [hz0]; omega)).trans ((Below.heap_alloc (w.alloc (Obj.cells #[.int .i64 (I : Int), .int .i64 2, .slice A1 nl c1, .int .i64 (S : Int), .int .i64 (Z : Int), .int .i64 (L : Int), .int .i64 (R : Int), .int .i64 (ST : Int), .slice A2 rl c2] 25)) (Obj.cells #[.int .i64 0, .slice none 0 0, .slice none 0 0] 53) w.heap.size (by rw [hz00]; omega)).trans (heap_alloc_new w (Obj.cells #[.int .i64 (I : Int), .int .i64 2, .slice A1 nl c1, .int .i64 (S : Int), .int .i64 (Z : Int), .int .i64 (L : Int), .int .i64 (R : Int), .int .i64 (ST : Int), .slice A2 rl c2] 25)))
  have hxb := (Below.heap_alloc ((w.alloc (Obj.cells #[.int .i64 (I : Int), .int .i64 2, .slice A1 nl c1, .int .i64 (S : Int), .int .i64 (Z : Int), .int .i64 (L : Int), .int .i64 (R : Int), .int .i64 (ST : Int), .slice A2 rl c2] 25)).alloc (Obj.cells #[.int .i64 0, .slice none 0 0, .slice none 0 0] 53)) (Obj.cells #[.int .u8 2] 5) (w.heap.size + 1) (by rw [hz0]; omega)).trans ((congrArg (fun k => ((w.alloc (Obj.cells #[.int .i64 (I : Int), .int .i64 2, .slice A1 nl c1, .int .i64 (S : Int), .int .i64 (Z : Int), .int .i64 (L : Int), .int .i64 (R : Int), .int .i64 (ST : Int), .slice A2 rl c2] 25)).alloc (Obj.cells #[.int .i64 0, .slice none 0 0, .slice none 0 0] 53)).heap[k]?) hz00.symm).trans (heap_alloc_new (w.alloc (Obj.cells #[.int .i64 (I : Int), .int .i64 2, .slice A1 nl c1, .int .i64 (S : Int), .int .i64 (Z : Int), .int .i64 (L : Int), .int .i64 (R : Int), .int .i64 (ST : Int), .slice A2 rl c2] 25)) (Obj.cells #[.int .i64 0, .slice none 0 0, .slice none 0 0] 53)))
  have hnk := heap_alloc_new ((w.alloc (Obj.cells #[.int .i64 (I : Int), .int .i64 2, .slice A1 nl c1, .int .i64 (S : Int), .int .i64 (Z : Int), .int .i64 (L : Int), .int .i64 (R : Int), .int .i64 (ST : Int), .slice A2 rl c2] 25)).alloc (Obj.cells #[.int .i64 0, .slice none 0 0, .slice none 0 0] 53)) (Obj.cells #[.int .u8 2] 5)
  rw [hz0] at hnk
  have hob := OB.of_cells (w := ((w.alloc (Obj.cells #[.int .i64 (I : Int), .int .i64 2, .slice A1 nl c1, .int .i64 (S : Int), .int .i64 (Z : Int), .int .i64 (L : Int), .int .i64 (R : Int), .int .i64 (ST : Int), .slice A2 rl c2] 25)).alloc (Obj.cells #[.int .i64 0, .slice none 0 0, .slice none 0 0] 53)).alloc (Obj.cells #[.int .u8 2] 5)) (base := w.heap.size + 1 + 1) (g := w.heap.size + 1 + 1) (n := 1) (l := [UInt8.ofNat 2]) (Nat.le_refl _) rfl (by unfold maxLen; omega) (by rw [hnk]; simp [bv]; try omega)
  have HB1 := Lib.hid hb1
  have HZ1 := Lib.hid hz1
  have HNB := Lib.hid hnb
  have HXB := Lib.hid hxb
  have HOB := Lib.hid hob
  clear hbx hb1 hz0 hz00 hz1 hnb hxb hnk hob
  go_enter Tryd.func35, Tryd.ntmps35
  go_wp2_with fail
  refine (HKR.out _).mono ?_
  rintro e wz ⟨rfl, rfl⟩
  generalize (((w.alloc (Obj.cells #[.int .i64 (I : Int), .int .i64 2, .slice A1 nl c1, .int .i64 (S : Int), .int .i64 (Z : Int), .int .i64 (L : Int), .int .i64 (R : Int), .int .i64 (ST : Int), .slice A2 rl c2] 25)).alloc (Obj.cells #[.int .i64 0, .slice none 0 0, .slice none 0 0] 53)).alloc (Obj.cells #[.int .u8 2] 5)) = w2 at *
  have hz1 : w2.heap.size = w.heap.size + 1 + 1 + 1 := HZ1.out
  have hza : w2.heap.size ≤ w.heap.size + 1 + 1 + 1 := by omega
  have hzb : w.heap.size + 1 + 1 + 1 ≤ w2.heap.size := by omega
  clear hz1 HZ1
  have HZA := Lib.hid hza
  clear hza
  have hlt : w.heap.size < w2.heap.size := by omega
  have f0 := cell_of_row _ _ 0 _ _ _ HNB.out
  have f1 := cell_of_row _ _ 1 _ _ _ HNB.out
  have f2 := cell_of_row _ _ 2 _ _ _ HNB.out
  have f3 := cell_of_row _ _ 3 _ _ _ HNB.out
  have f4 := cell_of_row _ _ 4 _ _ _ HNB.out
  have f5 := cell_of_row _ _ 5 _ _ _ HNB.out
  have f6 := cell_of_row _ _ 6 _ _ _ HNB.out
  have f7 := cell_of_row _ _ 7 _ _ _ HNB.out
  have f8 := cell_of_row _ _ 8 _ _ _ HNB.out
  have HNB2 := HNB
  have HXB2 := HXB
  have HB2 := HB1
  have HO2 := HOB
  clear HNB HXB HB1 HOB
  have hs2 : w.heap.size + 1 + 1 + 1 ≤ w2.heap.size := by omega
  have hlt2 : w.heap.size < w2.heap.size := by omega
  go_wp2_with fail
  refine (HT64.out _).mono ?_
  rintro e w3 ⟨v3, rfl, hf3, hb3⟩
  have hf31 := hf3.1
  obtain ⟨A6, c6, rfl, _⟩ := hf31
  rw [HLI.out] at hf3
  rw [HLI.out]
  have hs3 := hb3.size
  have hnb3 := (hb3.block w.heap.size hlt2).trans HNB2.out
  have hba := alloc_below w3 (Obj.cells #[.int .i64 130, (.slice (some ⟨w.heap.size + 1 + 1, 0, none⟩) 1 1), .slice none 0 0, .int .i64 131, .slice A6 2 c6, .slice none 0 0] 53)
  have hna := heap_alloc_new w3 (Obj.cells #[.int .i64 130, (.slice (some ⟨w.heap.size + 1 + 1, 0, none⟩) 1 1), .slice none 0 0, .int .i64 131, .slice A6 2 c6, .slice none 0 0] 53)
  have hfx1 : FX w3 (w.heap.size + 1) (.slice (some ⟨w.heap.size + 1 + 1, 0, none⟩) 1 1) (kindB 2 L R) := by rw [hkb]; exact (FX.ofOB HO2.out (by omega)).on hb3
  have hfx2 : FX w3 (w.heap.size + 1) (.slice A6 2 c6) (putL I 2) := FX.of hf3 (by omega)
  have hoh := OH.two (base := w.heap.size + 1 + 1) (x := w.heap.size + 1) (by omega) (hfx1.on hba) (hfx2.on hba)
    (fun hp e => by have := (HO2.out.ltB w3.heap.size e).2; omega)
    (fun hp e => by
      obtain ⟨A, c, hv, _, _, h3⟩ := hf3.1
      obtain ⟨rfl, _, rfl⟩ := Value.slice.inj hv
      obtain ⟨b, o, rfl, hb, _⟩ := h3 hp
      simp only [Value.ownBlock, Option.some.injEq] at e
      omega) hna
  have hbe := (hba.block w.heap.size (by omega)).trans hnb3
  have hxe := (hba.block (w.heap.size + 1) (by omega)).trans ((hb3.block (w.heap.size + 1) (by omega)).trans HXB2.out)
  have HB4 := Lib.hid (HB2.out.trans ((hb3.trans (hba.mono hs3)).mono (by omega)))
  have HO4 : Hid (OH (w3.alloc (Obj.cells #[.int .i64 130, (.slice (some ⟨w.heap.size + 1 + 1, 0, none⟩) 1 1), .slice none 0 0, .int .i64 131, .slice A6 2 c6, .slice none 0 0] 53)) (w.heap.size + 1 + 1) (w.heap.size + 1) (.slice (some ⟨w3.heap.size, 0, none⟩) 2 2) (outP P 2)) := by
    show OH _ _ _ _ _
    rw [show outP P 2 = [(130, kindB 2 L R), (131, putL I 2)] from by
      rw [outP_yes HP1.out hl2, outP_yes HP0.out (kindB_len 2 L R).1, HO0.out]; rfl]
    exact hoh
  have hz4 := alloc_size w3 (Obj.cells #[.int .i64 130, (.slice (some ⟨w.heap.size + 1 + 1, 0, none⟩) 1 1), .slice none 0 0, .int .i64 131, .slice A6 2 c6, .slice none 0 0] 53)
  have HZ4 : Hid (w3.heap.size + 1 ≤ (w3.alloc (Obj.cells #[.int .i64 130, (.slice (some ⟨w.heap.size + 1 + 1, 0, none⟩) 1 1), .slice none 0 0, .int .i64 131, .slice A6 2 c6, .slice none 0 0] 53)).heap.size) := Nat.le_of_eq hz4.symm
  have HNB4 := Lib.hid hbe
  have HXB4 := Lib.hid hxe
  have HS4 : Hid (w.heap.size + 1 + 1 < w3.heap.size + 1) := by show _ < _; omega
  clear hf3 hb3 hnb3 hba hna hfx1 hfx2 hoh hbe hxe hz4 HO2 HB2 HNB2 HXB2 hs2 hkb
  clear f0 f1 f2 f3 f4 f5 f6 f7 f8
  have hlt4 : w.heap.size + 1 + 1 < (w3.alloc (Obj.cells #[.int .i64 130, (.slice (some ⟨w.heap.size + 1 + 1, 0, none⟩) 1 1), .slice none 0 0, .int .i64 131, .slice A6 2 c6, .slice none 0 0] 53)).heap.size := Nat.lt_of_lt_of_le HS4.out HZ4.out
  have hlt4b : w.heap.size < (w3.alloc (Obj.cells #[.int .i64 130, (.slice (some ⟨w.heap.size + 1 + 1, 0, none⟩) 1 1), .slice none 0 0, .int .i64 131, .slice A6 2 c6, .slice none 0 0] 53)).heap.size := by omega
  have hlt4c : w.heap.size + 1 < (w3.alloc (Obj.cells #[.int .i64 130, (.slice (some ⟨w.heap.size + 1 + 1, 0, none⟩) 1 1), .slice none 0 0, .int .i64 131, .slice A6 2 c6, .slice none 0 0] 53)).heap.size := by omega
  clear HZ4 HS4
  have HLN : Hid ((outP P 2).length = 2) := by show _ = _; rw [outP_yes HP1.out hl2, outP_yes HP0.out (kindB_len 2 L R).1, HO0.out]; rfl
  have f0 := cell_of_row _ _ 0 _ _ _ HNB4.out
  have f1 := cell_of_row _ _ 1 _ _ _ HNB4.out
  have f2 := cell_of_row _ _ 2 _ _ _ HNB4.out
  have f3 := cell_of_row _ _ 3 _ _ _ HNB4.out
  have f4 := cell_of_row _ _ 4 _ _ _ HNB4.out
  have f5 := cell_of_row _ _ 5 _ _ _ HNB4.out
  have f6 := cell_of_row _ _ 6 _ _ _ HNB4.out
  have f7 := cell_of_row _ _ 7 _ _ _ HNB4.out
  have f8 := cell_of_row _ _ 8 _ _ _ HNB4.out
  have HOz : Hid (outP P 3 = outP P 2) := outP_no HP2.out HN0.out
  have HOq := HO4
  rw [← HOz.out] at HOq
  have HLq := HLN
  rw [← HOz.out] at HLq
  have HO_3 := HOq
  have HLN_3 := HLq
  clear HOq HLq HOz
  have hz0 : nl = 0 := by rw [HNL.out, HN0.out]; rfl
  subst hz0
  go_wp2_with fail
  refine (HTZ.out _).mono ?_
  rintro e ww ⟨v5, rfl, hf5, hb5⟩
  have hf51 := hf5.1
  obtain ⟨A8, c8, rfl, _⟩ := hf51
  rw [HLZ.out] at hf5
  rw [HLZ.out]
  have HOc := Lib.hid (HO_3.out.later hb5)
  have hsc := hb5.size
  have HF5 := Lib.hid hf5
  have HNBc := Lib.hid ((hb5.block w.heap.size (by omega)).trans HNB4.out)
  have HXBc := Lib.hid ((hb5.block (w.heap.size + 1) (by omega)).trans HXB4.out)
  have HBc := Lib.hid (HB4.out.trans (hb5.mono (by omega)))
  clear hf5 hb5
  have hwc : w.heap.size + 1 + 1 < ww.heap.size := by omega
  have hba5 := alloc_below ww (Obj.cells #[.int .i64 128, .slice A8 2 c8, .slice none 0 0] 53)
  have HO7 := Lib.hid (HOc.out.later hba5)
  have HF7 := Lib.hid (FX.on (FX.of HF5.out (x := w.heap.size + 1) (by omega)) hba5)
  have HNE := Lib.hid (show 0 < ((putL Z 2) : List UInt8).length → (Value.slice A8 2 c8).ownBlock ≠ (Value.slice (some ⟨w3.heap.size, 0, none⟩) 2 2).ownBlock from fun hp e => by obtain ⟨bb, e1, e2⟩ := HF5.out.2.out hp; have e3 := (HO_3.out.ltB bb (e.symm.trans e1)).2; omega)
  have hbz : w.heap.size + 1 + 1 ≤ (ww.alloc (Obj.cells #[.int .i64 128, .slice A8 2 c8, .slice none 0 0] 53)).heap.size := by have hq1 := hlt4; (try simp only [alloc_size] at hq1); simp only [alloc_size]; omega
  have HBZ := Lib.hid hbz
  clear hbz
  have HL6 : Hid ((outP P 3).length ≤ 1000) := Nat.le_trans (HPL.out 3) (by omega)
  have HOY := Lib.hid (outP_yes HP3.out hl2z)
  have HLE : Hid ((outP P 3 ++ [(128, (putL Z 2))]).length = 2 + 1) := by show _ = _; rw [List.length_append, HLN_3.out]; rfl
  have HBA5 := Lib.hid hba5
  clear hba5
  have hnob := heap_alloc_new ww (Obj.cells #[.int .i64 128, .slice A8 2 c8, .slice none 0 0] 53)
  have HNOB := Lib.hid hnob
  clear hnob
  go_wp2_with (at_builtin; refine wpList_appH rfl _ _ rfl (w.heap.size + 1 + 1) (w.heap.size + 1) _ (outP P 3) 128 _ (putL Z 2) (ww.heap.size) rfl rfl HO7.out HF7.out HNE.out HNOB.out HL6.out HBZ.out ?_; intro v7 w9 ho7 hb7; refine Hid.out ?_)
  have hbw : Below (w.heap.size + 1 + 1) ww w9 := (HBA5.out.mono (by omega)).trans hb7
  have HNBn := Lib.hid ((hbw.block w.heap.size (by omega)).trans HNBc.out)
  have HXBn := Lib.hid ((hbw.block (w.heap.size + 1) (by omega)).trans HXBc.out)
  have HBn := Lib.hid (HBc.out.trans (hbw.mono (by omega)))
  have hltn : w.heap.size + 1 + 1 < w9.heap.size := by have := hbw.size; omega
  have hltnb : w.heap.size < w9.heap.size := by omega
  have hltnc : w.heap.size + 1 < w9.heap.size := by omega
  obtain ⟨A7, c7, hv7⟩ := ho7.value
  rw [HLE.out] at hv7
  subst hv7
  rw [← HOY.out] at ho7
  have HOn := Lib.hid ho7
  have HLNn : Hid ((outP P 4).length = 2 + 1) := by show _ = _; rw [HOY.out]; exact HLE.out
  clear ho7 hb7 hbw HO7 HF7 HNE HBZ HL6 HOY HLE HBA5 HNOB f0 f1 f2 f3 f4 f5 f6 f7 f8
  have f0 := cell_of_row _ _ 0 _ _ _ HNBn.out
  have f1 := cell_of_row _ _ 1 _ _ _ HNBn.out
  have f2 := cell_of_row _ _ 2 _ _ _ HNBn.out
  have f3 := cell_of_row _ _ 3 _ _ _ HNBn.out
  have f4 := cell_of_row _ _ 4 _ _ _ HNBn.out
  have f5 := cell_of_row _ _ 5 _ _ _ HNBn.out
  have f6 := cell_of_row _ _ 6 _ _ _ HNBn.out
  have f7 := cell_of_row _ _ 7 _ _ _ HNBn.out
  have f8 := cell_of_row _ _ 8 _ _ _ HNBn.out
  refine Lib.hid ?_
  obtain ⟨nn3, hnn3⟩ : ∃ z, z = 2 + 1 := ⟨_, rfl⟩
  have HO_4 := HOn
  clear HOn
  have HB_4 := HBn
  clear HBn
  have HNB_4 := HNBn
  clear HNBn
  have HXB_4 := HXBn
  clear HXBn
  have HLN_4 := HLNn
  clear HLNn
  clear hnn3 nn3
  by_cases hsz : S = 0
  · subst hsz
    have HOz : Hid (outP P 5 = outP P 4) := outP_no HP4.out (if_pos rfl)
    have HOq := HO_4
    rw [← HOz.out] at HOq
    have HLq := HLN_4
    rw [← HOz.out] at HLq
    have HO_5 := HOq
    have HLN_5 := HLq
    clear HOq HLq HOz
    have hbb := alloc_below w9 (Obj.cells #[.int .u8 (ST : Int)] 5)
    have hff := FS.new w9 #[.int .u8 (ST : Int)] [UInt8.ofNat ST] (by simp [bv, Nat.mod_eq_of_lt hST]) (by simp)
    obtain ⟨wb, hwb⟩ : ∃ z, z = w9.alloc (Obj.cells #[.int .u8 (ST : Int)] 5) := ⟨_, rfl⟩
    have hzb2 : wb.heap.size = w9.heap.size + 1 := by rw [hwb]; exact alloc_size _ _
    rw [← hwb] at hbb hff
    have HOc := Lib.hid (HO_5.out.later hbb)
    have HF5 := Lib.hid hff
    have HNBc := Lib.hid ((hbb.block w.heap.size (by omega)).trans HNB_4.out)
    have HXBc := Lib.hid ((hbb.block (w.heap.size + 1) (by omega)).trans HXB_4.out)
    have HBc := Lib.hid (HB_4.out.trans (hbb.mono (by omega)))
    have hwc : w.heap.size + 1 + 1 < wb.heap.size := by omega
    subst hwb
    have HZB := Lib.hid hzb2
    clear hbb hff hzb2
    have hba5 := alloc_below (w9.alloc (Obj.cells #[.int .u8 (ST : Int)] 5)) (Obj.cells #[.int .i64 138, .slice (some ⟨w9.heap.size, 0, none⟩) 1 1, .slice none 0 0] 53)
    have HO7 := Lib.hid (HOc.out.later hba5)
    have HF7 := Lib.hid (FX.on (FX.of HF5.out (x := w.heap.size + 1) (by omega)) hba5)
    have HNE := Lib.hid (show 0 < ([UInt8.ofNat ST] : List UInt8).length → (Value.slice (some ⟨w9.heap.size, 0, none⟩) 1 1).ownBlock ≠ (Value.slice A7 3 c7).ownBlock from fun hp e => by have e3 := (HO_5.out.ltB (w9.heap.size) e.symm).2; (try simp only [alloc_size] at e3); omega)
    have hbz : w.heap.size + 1 + 1 ≤ ((w9.alloc (Obj.cells #[.int .u8 (ST : Int)] 5)).alloc (Obj.cells #[.int .i64 138, .slice (some ⟨w9.heap.size, 0, none⟩) 1 1, .slice none 0 0] 53)).heap.size := by have hq1 := hlt4; (try simp only [alloc_size] at hq1); simp only [alloc_size]; omega
    have HBZ := Lib.hid hbz
    clear hbz
    have HL6 : Hid ((outP P 5).length ≤ 1000) := Nat.le_trans (HPL.out 5) (by omega)
    have HOY := Lib.hid (outP_yes HP5.out (by simp))
    have HLE : Hid ((outP P 5 ++ [(138, [UInt8.ofNat ST])]).length = 3 + 1) := by show _ = _; rw [List.length_append, HLN_5.out]; rfl
    have HBA5 := Lib.hid hba5
    clear hba5
    have hnob := heap_alloc_new (w9.alloc (Obj.cells #[.int .u8 (ST : Int)] 5)) (Obj.cells #[.int .i64 138, .slice (some ⟨w9.heap.size, 0, none⟩) 1 1, .slice none 0 0] 53)
    rw [show (w9.alloc (Obj.cells #[.int .u8 (ST : Int)] 5)).heap.size = w9.heap.size + 1 from by simp only [alloc_size]] at hnob
    have HNOB := Lib.hid hnob
    clear hnob
    go_wp2_with (at_builtin; refine wpList_appH rfl _ _ rfl (w.heap.size + 1 + 1) (w.heap.size + 1) _ (outP P 5) 138 _ [UInt8.ofNat ST] (w9.heap.size + 1) rfl rfl HO7.out HF7.out HNE.out HNOB.out HL6.out HBZ.out ?_; intro v7 w11 ho7 hb7; refine Hid.out ?_)
    have hbw : Below (w.heap.size + 1 + 1) (w9.alloc (Obj.cells #[.int .u8 (ST : Int)] 5)) w11 := (HBA5.out.mono (by omega)).trans hb7
    have HNBn := Lib.hid ((hbw.block w.heap.size (by omega)).trans HNBc.out)
    have HXBn := Lib.hid ((hbw.block (w.heap.size + 1) (by omega)).trans HXBc.out)
    have HBn := Lib.hid (HBc.out.trans (hbw.mono (by omega)))
    have hltn : w.heap.size + 1 + 1 < w11.heap.size := by have := hbw.size; omega
    have hltnb : w.heap.size < w11.heap.size := by omega
    have hltnc : w.heap.size + 1 < w11.heap.size := by omega
    obtain ⟨A7, c7, hv7⟩ := ho7.value
    rw [HLE.out] at hv7
    subst hv7
    rw [← HOY.out] at ho7
    have HOn := Lib.hid ho7
    have HLNn : Hid ((outP P 6).length = 3 + 1) := by show _ = _; rw [HOY.out]; exact HLE.out
    clear ho7 hb7 hbw HO7 HF7 HNE HBZ HL6 HOY HLE HBA5 HNOB f0 f1 f2 f3 f4 f5 f6 f7 f8
    have f0 := cell_of_row _ _ 0 _ _ _ HNBn.out
    have f1 := cell_of_row _ _ 1 _ _ _ HNBn.out
    have f2 := cell_of_row _ _ 2 _ _ _ HNBn.out
    have f3 := cell_of_row _ _ 3 _ _ _ HNBn.out
    have f4 := cell_of_row _ _ 4 _ _ _ HNBn.out
    have f5 := cell_of_row _ _ 5 _ _ _ HNBn.out
    have f6 := cell_of_row _ _ 6 _ _ _ HNBn.out
    have f7 := cell_of_row _ _ 7 _ _ _ HNBn.out
    have f8 := cell_of_row _ _ 8 _ _ _ HNBn.out
    refine Lib.hid ?_
    obtain ⟨nn5, hnn5⟩ : ∃ z, z = 3 + 1 := ⟨_, rfl⟩
    have HO_6 := HOn
    clear HOn
    have HB_6 := HBn
    clear HBn
    have HNB_6 := HNBn
    clear HNBn
    have HXB_6 := HXBn
    clear HXBn
    have HLN_6 := HLNn
    clear HLNn
    clear hnn5 nn5
    by_cases hrz : 0 < rl
    · have hri : (0 : Int) < (rl : Int) := by omega
      have hrd : decide ((0 : Int) < (rl : Int)) = true := decide_eq_true hri
      have hpo := HRL.out.1 hrz
      go_wp2_with fail
      refine (HRN.out _ HB_6.out).mono ?_
      rintro e ww ⟨v5, rfl, hf5, hb5⟩
      have hf51 := hf5.1
      obtain ⟨A8, c8, rfl, _⟩ := hf51
      have HOc := Lib.hid (HO_6.out.later hb5)
      have hsc := hb5.size
      have HF5 := Lib.hid hf5
      have HNBc := Lib.hid ((hb5.block w.heap.size (by omega)).trans HNB_6.out)
      have HXBc := Lib.hid ((hb5.block (w.heap.size + 1) (by omega)).trans HXB_6.out)
      have HBc := Lib.hid (HB_6.out.trans (hb5.mono (by omega)))
      clear hf5 hb5
      have hwc : w.heap.size + 1 + 1 < ww.heap.size := by omega
      generalize rM rules = LM at *
      have hba5 := alloc_below ww (Obj.cells #[.int .i64 134, .slice A8 LM.length c8, .slice none 0 0] 53)
      have HO7 := Lib.hid (HOc.out.later hba5)
      have HF7 := Lib.hid (FX.on (FX.of HF5.out (x := w.heap.size + 1) (by omega)) hba5)
      have HNE := Lib.hid (show 0 < (LM : List UInt8).length → (Value.slice A8 LM.length c8).ownBlock ≠ (Value.slice A7 4 c7).ownBlock from fun hp e => by obtain ⟨bb, e1, e2⟩ := HF5.out.2.out hp; have e3 := (HO_6.out.ltB bb (e.symm.trans e1)).2; omega)
      have hbz : w.heap.size + 1 + 1 ≤ (ww.alloc (Obj.cells #[.int .i64 134, .slice A8 LM.length c8, .slice none 0 0] 53)).heap.size := by have hq1 := hlt4; (try simp only [alloc_size] at hq1); simp only [alloc_size]; omega
      have HBZ := Lib.hid hbz
      clear hbz
      have HL6 : Hid ((outP P 6).length ≤ 1000) := Nat.le_trans (HPL.out 6) (by omega)
      have HOY := Lib.hid (outP_yes HP6.out hpo)
      have HLE : Hid ((outP P 6 ++ [(134, LM)]).length = 4 + 1) := by show _ = _; rw [List.length_append, HLN_6.out]; rfl
      have HBA5 := Lib.hid hba5
      clear hba5
      have hnob := heap_alloc_new ww (Obj.cells #[.int .i64 134, .slice A8 LM.length c8, .slice none 0 0] 53)
      have HNOB := Lib.hid hnob
      clear hnob
      go_wp2_with (at_builtin; refine wpList_appH rfl _ _ rfl (w.heap.size + 1 + 1) (w.heap.size + 1) _ (outP P 6) 134 _ LM (ww.heap.size) rfl rfl HO7.out HF7.out HNE.out HNOB.out HL6.out HBZ.out ?_; intro v7 w12 ho7 hb7; refine Hid.out ?_)
      have hbw : Below (w.heap.size + 1 + 1) ww w12 := (HBA5.out.mono (by omega)).trans hb7
      have HNBn := Lib.hid ((hbw.block w.heap.size (by omega)).trans HNBc.out)
      have HXBn := Lib.hid ((hbw.block (w.heap.size + 1) (by omega)).trans HXBc.out)
      have HBn := Lib.hid (HBc.out.trans (hbw.mono (by omega)))
      have hltn : w.heap.size + 1 + 1 < w12.heap.size := by have := hbw.size; omega
      have hltnb : w.heap.size < w12.heap.size := by omega
      have hltnc : w.heap.size + 1 < w12.heap.size := by omega
      obtain ⟨A7, c7, hv7⟩ := ho7.value
      rw [HLE.out] at hv7
      subst hv7
      rw [← HOY.out] at ho7
      have HOn := Lib.hid ho7
      have HLNn : Hid ((outP P 7).length = 4 + 1) := by show _ = _; rw [HOY.out]; exact HLE.out
      clear ho7 hb7 hbw HO7 HF7 HNE HBZ HL6 HOY HLE HBA5 HNOB f0 f1 f2 f3 f4 f5 f6 f7 f8
      have f0 := cell_of_row _ _ 0 _ _ _ HNBn.out
      have f1 := cell_of_row _ _ 1 _ _ _ HNBn.out
      have f2 := cell_of_row _ _ 2 _ _ _ HNBn.out
      have f3 := cell_of_row _ _ 3 _ _ _ HNBn.out
      have f4 := cell_of_row _ _ 4 _ _ _ HNBn.out
      have f5 := cell_of_row _ _ 5 _ _ _ HNBn.out
      have f6 := cell_of_row _ _ 6 _ _ _ HNBn.out
      have f7 := cell_of_row _ _ 7 _ _ _ HNBn.out
      have f8 := cell_of_row _ _ 8 _ _ _ HNBn.out
      refine Lib.hid ?_
      obtain ⟨nn6, hnn6⟩ : ∃ z, z = 4 + 1 := ⟨_, rfl⟩
      have HO_7 := HOn
      clear HOn
      have HB_7 := HBn
      clear HBn
      have HNB_7 := HNBn
      clear HNBn
      have HXB_7 := HXBn
      clear HXBn
      have HLN_7 := HLNn
      clear HLNn
      clear hnn6 nn6
      have x0 := cell_of_row _ _ 0 _ _ _ HXB_7.out
      have y0 := frozen_of_row _ _ 0 _ _ HXB_7.out
      have x1 := cell_of_row _ _ 1 _ _ _ HXB_7.out
      have y1 := frozen_of_row _ _ 1 _ _ HXB_7.out
      have x2 := cell_of_row _ _ 2 _ _ _ HXB_7.out
      have y2 := frozen_of_row _ _ 2 _ _ HXB_7.out
      go_wp2_with fail
      have hkb := (((Kb.refl (w.heap.size + 1) w12).set 0 (.int .i64 98)).set 1 (.slice none 0 0)).set 2 (.slice A7 5 c7)
      have hres : (((w12.setCell ⟨w.heap.size + 1, 0, none⟩ (.int .i64 98)).setCell ⟨w.heap.size + 1, 1, none⟩ (.slice none 0 0)).setCell ⟨w.heap.size + 1, 2, none⟩ (.slice A7 5 c7)).heap[w.heap.size + 1]? = some (.cells #[.int .i64 98, .slice none 0 0, .slice A7 5 c7] 53 (0, 0)) := by rw [heap_set_row (heap_set_row (heap_set_row HXB_7.out))]; rfl
      exact bodyPost_ret (results_cell1 rfl _ _ (w.heap.size + 1) 53 _ (0, 0) _ rfl hres Tryd.underlying53 rfl (by kernel_rfl)) rfl ⟨_, _, _, rfl, ((HO_7.out.set (by omega) _).set (by omega) _).set (by omega) _, HB_7.out.trans (hkb.below (B := w.heap.size) (by omega) (by omega))⟩
    · have hz0 : rl = 0 := by omega
      have HEM := Lib.hid (HRL.out.2 hz0)
      subst hz0
      have HOz : Hid (outP P 7 = outP P 6) := outP_no HP6.out HEM.out
      have HOq := HO_6
      rw [← HOz.out] at HOq
      have HLq := HLN_6
      rw [← HOz.out] at HLq
      have HO_7 := HOq
      have HLN_7 := HLq
      clear HOq HLq HOz
      have x0 := cell_of_row _ _ 0 _ _ _ HXB_6.out
      have y0 := frozen_of_row _ _ 0 _ _ HXB_6.out
      have x1 := cell_of_row _ _ 1 _ _ _ HXB_6.out
      have y1 := frozen_of_row _ _ 1 _ _ HXB_6.out
      have x2 := cell_of_row _ _ 2 _ _ _ HXB_6.out
      have y2 := frozen_of_row _ _ 2 _ _ HXB_6.out
      go_wp2_with fail
      have hkb := (((Kb.refl (w.heap.size + 1) w11).set 0 (.int .i64 98)).set 1 (.slice none 0 0)).set 2 (.slice A7 4 c7)
      have hres : (((w11.setCell ⟨w.heap.size + 1, 0, none⟩ (.int .i64 98)).setCell ⟨w.heap.size + 1, 1, none⟩ (.slice none 0 0)).setCell ⟨w.heap.size + 1, 2, none⟩ (.slice A7 4 c7)).heap[w.heap.size + 1]? = some (.cells #[.int .i64 98, .slice none 0 0, .slice A7 4 c7] 53 (0, 0)) := by rw [heap_set_row (heap_set_row (heap_set_row HXB_6.out))]; rfl
      exact bodyPost_ret (results_cell1 rfl _ _ (w.heap.size + 1) 53 _ (0, 0) _ rfl hres Tryd.underlying53 rfl (by kernel_rfl)) rfl ⟨_, _, _, rfl, ((HO_7.out.set (by omega) _).set (by omega) _).set (by omega) _, HB_6.out.trans (hkb.below (B := w.heap.size) (by omega) (by omega))⟩
  · have hse : (if (S : Int) = 0 then [] else [UInt8.ofNat S]) = [UInt8.ofNat S] := if_neg (by omega)
    rw [hse] at HP4
    have hsb : ((S : Int) == 0) = false := beq_eq_false_iff_ne.2 (by omega)
    have hsc0 : ((S : Int) != 0) = true := bne_iff_ne.2 (by omega)
    have hsd : decide ((S : Int) = 0) = false := decide_eq_false (by omega)
    have hsn : ¬ (S : Int) = 0 := by omega
    have hbb := alloc_below w9 (Obj.cells #[.int .u8 (S : Int)] 5)
    have hff := FS.new w9 #[.int .u8 (S : Int)] [UInt8.ofNat S] (by simp [bv, Nat.mod_eq_of_lt hS]) (by simp)
    obtain ⟨wb, hwb⟩ : ∃ z, z = w9.alloc (Obj.cells #[.int .u8 (S : Int)] 5) := ⟨_, rfl⟩
    have hzb2 : wb.heap.size = w9.heap.size + 1 := by rw [hwb]; exact alloc_size _ _
    rw [← hwb] at hbb hff
    have HOc := Lib.hid (HO_4.out.later hbb)
    have HF5 := Lib.hid hff
    have HNBc := Lib.hid ((hbb.block w.heap.size (by omega)).trans HNB_4.out)
    have HXBc := Lib.hid ((hbb.block (w.heap.size + 1) (by omega)).trans HXB_4.out)
    have HBc := Lib.hid (HB_4.out.trans (hbb.mono (by omega)))
    have hwc : w.heap.size + 1 + 1 < wb.heap.size := by omega
    subst hwb
    have HZB := Lib.hid hzb2
    clear hbb hff hzb2
    have hba5 := alloc_below (w9.alloc (Obj.cells #[.int .u8 (S : Int)] 5)) (Obj.cells #[.int .i64 136, .slice (some ⟨w9.heap.size, 0, none⟩) 1 1, .slice none 0 0] 53)
    have HO7 := Lib.hid (HOc.out.later hba5)
    have HF7 := Lib.hid (FX.on (FX.of HF5.out (x := w.heap.size + 1) (by omega)) hba5)
    have HNE := Lib.hid (show 0 < ([UInt8.ofNat S] : List UInt8).length → (Value.slice (some ⟨w9.heap.size, 0, none⟩) 1 1).ownBlock ≠ (Value.slice A7 3 c7).ownBlock from fun hp e => by have e3 := (HO_4.out.ltB (w9.heap.size) e.symm).2; (try simp only [alloc_size] at e3); omega)
    have hbz : w.heap.size + 1 + 1 ≤ ((w9.alloc (Obj.cells #[.int .u8 (S : Int)] 5)).alloc (Obj.cells #[.int .i64 136, .slice (some ⟨w9.heap.size, 0, none⟩) 1 1, .slice none 0 0] 53)).heap.size := by have hq1 := hlt4; (try simp only [alloc_size] at hq1); simp only [alloc_size]; omega
    have HBZ := Lib.hid hbz
    clear hbz
    have HL6 : Hid ((outP P 4).length ≤ 1000) := Nat.le_trans (HPL.out 4) (by omega)
    have HOY := Lib.hid (outP_yes HP4.out (by simp))
    have HLE : Hid ((outP P 4 ++ [(136, [UInt8.ofNat S])]).length = 3 + 1) := by show _ = _; rw [List.length_append, HLN_4.out]; rfl
    have HBA5 := Lib.hid hba5
    clear hba5
    have hnob := heap_alloc_new (w9.alloc (Obj.cells #[.int .u8 (S : Int)] 5)) (Obj.cells #[.int .i64 136, .slice (some ⟨w9.heap.size, 0, none⟩) 1 1, .slice none 0 0] 53)
    rw [show (w9.alloc (Obj.cells #[.int .u8 (S : Int)] 5)).heap.size = w9.heap.size + 1 from by simp only [alloc_size]] at hnob
    have HNOB := Lib.hid hnob
    clear hnob
    go_wp2_with (at_builtin; refine wpList_appH rfl _ _ rfl (w.heap.size + 1 + 1) (w.heap.size + 1) _ (outP P 4) 136 _ [UInt8.ofNat S] (w9.heap.size + 1) rfl rfl HO7.out HF7.out HNE.out HNOB.out HL6.out HBZ.out ?_; intro v7 w10 ho7 hb7; refine Hid.out ?_)
    have hbw : Below (w.heap.size + 1 + 1) (w9.alloc (Obj.cells #[.int .u8 (S : Int)] 5)) w10 := (HBA5.out.mono (by omega)).trans hb7
    have HNBn := Lib.hid ((hbw.block w.heap.size (by omega)).trans HNBc.out)
    have HXBn := Lib.hid ((hbw.block (w.heap.size + 1) (by omega)).trans HXBc.out)
    have HBn := Lib.hid (HBc.out.trans (hbw.mono (by omega)))
    have hltn : w.heap.size + 1 + 1 < w10.heap.size := by have := hbw.size; omega
    have hltnb : w.heap.size < w10.heap.size := by omega
    have hltnc : w.heap.size + 1 < w10.heap.size := by omega
    obtain ⟨A7, c7, hv7⟩ := ho7.value
    rw [HLE.out] at hv7
    subst hv7
    rw [← HOY.out] at ho7
    have HOn := Lib.hid ho7
    have HLNn : Hid ((outP P 5).length = 3 + 1) := by show _ = _; rw [HOY.out]; exact HLE.out
    clear ho7 hb7 hbw HO7 HF7 HNE HBZ HL6 HOY HLE HBA5 HNOB f0 f1 f2 f3 f4 f5 f6 f7 f8
    have f0 := cell_of_row _ _ 0 _ _ _ HNBn.out
    have f1 := cell_of_row _ _ 1 _ _ _ HNBn.out
    have f2 := cell_of_row _ _ 2 _ _ _ HNBn.out
    have f3 := cell_of_row _ _ 3 _ _ _ HNBn.out
    have f4 := cell_of_row _ _ 4 _ _ _ HNBn.out
    have f5 := cell_of_row _ _ 5 _ _ _ HNBn.out
    have f6 := cell_of_row _ _ 6 _ _ _ HNBn.out
    have f7 := cell_of_row _ _ 7 _ _ _ HNBn.out
    have f8 := cell_of_row _ _ 8 _ _ _ HNBn.out
    refine Lib.hid ?_
    obtain ⟨nn4, hnn4⟩ : ∃ z, z = 3 + 1 := ⟨_, rfl⟩
    have HO_5 := HOn
    clear HOn
    have HB_5 := HBn
    clear HBn
    have HNB_5 := HNBn
    clear HNBn
    have HXB_5 := HXBn
    clear HXBn
    have HLN_5 := HLNn
    clear HLNn
    clear hnn4 nn4
    have hbb := alloc_below w10 (Obj.cells #[.int .u8 (ST : Int)] 5)
    have hff := FS.new w10 #[.int .u8 (ST : Int)] [UInt8.ofNat ST] (by simp [bv, Nat.mod_eq_of_lt hST]) (by simp)
    obtain ⟨wb, hwb⟩ : ∃ z, z = w10.alloc (Obj.cells #[.int .u8 (ST : Int)] 5) := ⟨_, rfl⟩
    have hzb2 : wb.heap.size = w10.heap.size + 1 := by rw [hwb]; exact alloc_size _ _
    rw [← hwb] at hbb hff
    have HOc := Lib.hid (HO_5.out.later hbb)
    have HF5 := Lib.hid hff
    have HNBc := Lib.hid ((hbb.block w.heap.size (by omega)).trans HNB_5.out)
    have HXBc := Lib.hid ((hbb.block (w.heap.size + 1) (by omega)).trans HXB_5.out)
    have HBc := Lib.hid (HB_5.out.trans (hbb.mono (by omega)))
    have hwc : w.heap.size + 1 + 1 < wb.heap.size := by omega
    subst hwb
    have HZB := Lib.hid hzb2
    clear hbb hff hzb2
    have hba5 := alloc_below (w10.alloc (Obj.cells #[.int .u8 (ST : Int)] 5)) (Obj.cells #[.int .i64 138, .slice (some ⟨w10.heap.size, 0, none⟩) 1 1, .slice none 0 0] 53)
    have HO7 := Lib.hid (HOc.out.later hba5)
    have HF7 := Lib.hid (FX.on (FX.of HF5.out (x := w.heap.size + 1) (by omega)) hba5)
    have HNE := Lib.hid (show 0 < ([UInt8.ofNat ST] : List UInt8).length → (Value.slice (some ⟨w10.heap.size, 0, none⟩) 1 1).ownBlock ≠ (Value.slice A7 4 c7).ownBlock from fun hp e => by have e3 := (HO_5.out.ltB (w10.heap.size) e.symm).2; (try simp only [alloc_size] at e3); omega)
    have hbz : w.heap.size + 1 + 1 ≤ ((w10.alloc (Obj.cells #[.int .u8 (ST : Int)] 5)).alloc (Obj.cells #[.int .i64 138, .slice (some ⟨w10.heap.size, 0, none⟩) 1 1, .slice none 0 0] 53)).heap.size := by have hq1 := hlt4; (try simp only [alloc_size] at hq1); simp only [alloc_size]; omega
    have HBZ := Lib.hid hbz
    clear hbz
    have HL6 : Hid ((outP P 5).length ≤ 1000) := Nat.le_trans (HPL.out 5) (by omega)
    have HOY := Lib.hid (outP_yes HP5.out (by simp))
    have HLE : Hid ((outP P 5 ++ [(138, [UInt8.ofNat ST])]).length = 4 + 1) := by show _ = _; rw [List.length_append, HLN_5.out]; rfl
    have HBA5 := Lib.hid hba5
    clear hba5
    have hnob := heap_alloc_new (w10.alloc (Obj.cells #[.int .u8 (ST : Int)] 5)) (Obj.cells #[.int .i64 138, .slice (some ⟨w10.heap.size, 0, none⟩) 1 1, .slice none 0 0] 53)
    rw [show (w10.alloc (Obj.cells #[.int .u8 (ST : Int)] 5)).heap.size = w10.heap.size + 1 from by simp only [alloc_size]] at hnob
    have HNOB := Lib.hid hnob
    clear hnob
    go_wp2_with (at_builtin; refine wpList_appH rfl _ _ rfl (w.heap.size + 1 + 1) (w.heap.size + 1) _ (outP P 5) 138 _ [UInt8.ofNat ST] (w10.heap.size + 1) rfl rfl HO7.out HF7.out HNE.out HNOB.out HL6.out HBZ.out ?_; intro v7 w11 ho7 hb7; refine Hid.out ?_)
    have hbw : Below (w.heap.size + 1 + 1) (w10.alloc (Obj.cells #[.int .u8 (ST : Int)] 5)) w11 := (HBA5.out.mono (by omega)).trans hb7
    have HNBn := Lib.hid ((hbw.block w.heap.size (by omega)).trans HNBc.out)
    have HXBn := Lib.hid ((hbw.block (w.heap.size + 1) (by omega)).trans HXBc.out)
    have HBn := Lib.hid (HBc.out.trans (hbw.mono (by omega)))
    have hltn : w.heap.size + 1 + 1 < w11.heap.size := by have := hbw.size; omega
    have hltnb : w.heap.size < w11.heap.size := by omega
    have hltnc : w.heap.size + 1 < w11.heap.size := by omega
    obtain ⟨A7, c7, hv7⟩ := ho7.value
    rw [HLE.out] at hv7
    subst hv7
    rw [← HOY.out] at ho7
    have HOn := Lib.hid ho7
    have HLNn : Hid ((outP P 6).length = 4 + 1) := by show _ = _; rw [HOY.out]; exact HLE.out
    clear ho7 hb7 hbw HO7 HF7 HNE HBZ HL6 HOY HLE HBA5 HNOB f0 f1 f2 f3 f4 f5 f6 f7 f8
    have f0 := cell_of_row _ _ 0 _ _ _ HNBn.out
    have f1 := cell_of_row _ _ 1 _ _ _ HNBn.out
    have f2 := cell_of_row _ _ 2 _ _ _ HNBn.out
    have f3 := cell_of_row _ _ 3 _ _ _ HNBn.out
    have f4 := cell_of_row _ _ 4 _ _ _ HNBn.out
    have f5 := cell_of_row _ _ 5 _ _ _ HNBn.out
    have f6 := cell_of_row _ _ 6 _ _ _ HNBn.out
    have f7 := cell_of_row _ _ 7 _ _ _ HNBn.out
    have f8 := cell_of_row _ _ 8 _ _ _ HNBn.out
    refine Lib.hid ?_
    obtain ⟨nn5, hnn5⟩ : ∃ z, z = 4 + 1 := ⟨_, rfl⟩
    have HO_6 := HOn
    clear HOn
    have HB_6 := HBn
    clear HBn
    have HNB_6 := HNBn
    clear HNBn
    have HXB_6 := HXBn
    clear HXBn
    have HLN_6 := HLNn
    clear HLNn
    clear hnn5 nn5
    by_cases hrz : 0 < rl
    · have hri : (0 : Int) < (rl : Int) := by omega
      have hrd : decide ((0 : Int) < (rl : Int)) = true := decide_eq_true hri
      have hpo := HRL.out.1 hrz
      go_wp2_with fail
      refine (HRN.out _ HB_6.out).mono ?_
      rintro e ww ⟨v5, rfl, hf5, hb5⟩
      have hf51 := hf5.1
      obtain ⟨A8, c8, rfl, _⟩ := hf51
      have HOc := Lib.hid (HO_6.out.later hb5)
      have hsc := hb5.size
      have HF5 := Lib.hid hf5
      have HNBc := Lib.hid ((hb5.block w.heap.size (by omega)).trans HNB_6.out)
      have HXBc := Lib.hid ((hb5.block (w.heap.size + 1) (by omega)).trans HXB_6.out)
      have HBc := Lib.hid (HB_6.out.trans (hb5.mono (by omega)))
      clear hf5 hb5
      have hwc : w.heap.size + 1 + 1 < ww.heap.size := by omega
      generalize rM rules = LM at *
      have hba5 := alloc_below ww (Obj.cells #[.int .i64 134, .slice A8 LM.length c8, .slice none 0 0] 53)
      have HO7 := Lib.hid (HOc.out.later hba5)
      have HF7 := Lib.hid (FX.on (FX.of HF5.out (x := w.heap.size + 1) (by omega)) hba5)
      have HNE := Lib.hid (show 0 < (LM : List UInt8).length → (Value.slice A8 LM.length c8).ownBlock ≠ (Value.slice A7 5 c7).ownBlock from fun hp e => by obtain ⟨bb, e1, e2⟩ := HF5.out.2.out hp; have e3 := (HO_6.out.ltB bb (e.symm.trans e1)).2; omega)
      have hbz : w.heap.size + 1 + 1 ≤ (ww.alloc (Obj.cells #[.int .i64 134, .slice A8 LM.length c8, .slice none 0 0] 53)).heap.size := by have hq1 := hlt4; (try simp only [alloc_size] at hq1); simp only [alloc_size]; omega
      have HBZ := Lib.hid hbz
      clear hbz
      have HL6 : Hid ((outP P 6).length ≤ 1000) := Nat.le_trans (HPL.out 6) (by omega)
      have HOY := Lib.hid (outP_yes HP6.out hpo)
      have HLE : Hid ((outP P 6 ++ [(134, LM)]).length = 5 + 1) := by show _ = _; rw [List.length_append, HLN_6.out]; rfl
      have HBA5 := Lib.hid hba5
      clear hba5
      have hnob := heap_alloc_new ww (Obj.cells #[.int .i64 134, .slice A8 LM.length c8, .slice none 0 0] 53)
      have HNOB := Lib.hid hnob
      clear hnob
      go_wp2_with (at_builtin; refine wpList_appH rfl _ _ rfl (w.heap.size + 1 + 1) (w.heap.size + 1) _ (outP P 6) 134 _ LM (ww.heap.size) rfl rfl HO7.out HF7.out HNE.out HNOB.out HL6.out HBZ.out ?_; intro v7 w12 ho7 hb7; refine Hid.out ?_)
      have hbw : Below (w.heap.size + 1 + 1) ww w12 := (HBA5.out.mono (by omega)).trans hb7
      have HNBn := Lib.hid ((hbw.block w.heap.size (by omega)).trans HNBc.out)
      have HXBn := Lib.hid ((hbw.block (w.heap.size + 1) (by omega)).trans HXBc.out)
      have HBn := Lib.hid (HBc.out.trans (hbw.mono (by omega)))
      have hltn : w.heap.size + 1 + 1 < w12.heap.size := by have := hbw.size; omega
      have hltnb : w.heap.size < w12.heap.size := by omega
      have hltnc : w.heap.size + 1 < w12.heap.size := by omega
      obtain ⟨A7, c7, hv7⟩ := ho7.value
      rw [HLE.out] at hv7
      subst hv7
      rw [← HOY.out] at ho7
      have HOn := Lib.hid ho7
      have HLNn : Hid ((outP P 7).length = 5 + 1) := by show _ = _; rw [HOY.out]; exact HLE.out
      clear ho7 hb7 hbw HO7 HF7 HNE HBZ HL6 HOY HLE HBA5 HNOB f0 f1 f2 f3 f4 f5 f6 f7 f8
      have f0 := cell_of_row _ _ 0 _ _ _ HNBn.out
      have f1 := cell_of_row _ _ 1 _ _ _ HNBn.out
      have f2 := cell_of_row _ _ 2 _ _ _ HNBn.out
      have f3 := cell_of_row _ _ 3 _ _ _ HNBn.out
      have f4 := cell_of_row _ _ 4 _ _ _ HNBn.out
      have f5 := cell_of_row _ _ 5 _ _ _ HNBn.out
      have f6 := cell_of_row _ _ 6 _ _ _ HNBn.out
      have f7 := cell_of_row _ _ 7 _ _ _ HNBn.out
      have f8 := cell_of_row _ _ 8 _ _ _ HNBn.out
      refine Lib.hid ?_
      obtain ⟨nn6, hnn6⟩ : ∃ z, z = 5 + 1 := ⟨_, rfl⟩
      have HO_7 := HOn
      clear HOn
      have HB_7 := HBn
      clear HBn
      have HNB_7 := HNBn
      clear HNBn
      have HXB_7 := HXBn
      clear HXBn
      have HLN_7 := HLNn
      clear HLNn
      clear hnn6 nn6
      have x0 := cell_of_row _ _ 0 _ _ _ HXB_7.out
      have y0 := frozen_of_row _ _ 0 _ _ HXB_7.out
      have x1 := cell_of_row _ _ 1 _ _ _ HXB_7.out
      have y1 := frozen_of_row _ _ 1 _ _ HXB_7.out
      have x2 := cell_of_row _ _ 2 _ _ _ HXB_7.out
      have y2 := frozen_of_row _ _ 2 _ _ HXB_7.out
      go_wp2_with fail
      have hkb := (((Kb.refl (w.heap.size + 1) w12).set 0 (.int .i64 98)).set 1 (.slice none 0 0)).set 2 (.slice A7 6 c7)
      have hres : (((w12.setCell ⟨w.heap.size + 1, 0, none⟩ (.int .i64 98)).setCell ⟨w.heap.size + 1, 1, none⟩ (.slice none 0 0)).setCell ⟨w.heap.size + 1, 2, none⟩ (.slice A7 6 c7)).heap[w.heap.size + 1]? = some (.cells #[.int .i64 98, .slice none 0 0, .slice A7 6 c7] 53 (0, 0)) := by rw [heap_set_row (heap_set_row (heap_set_row HXB_7.out))]; rfl
      exact bodyPost_ret (results_cell1 rfl _ _ (w.heap.size + 1) 53 _ (0, 0) _ rfl hres Tryd.underlying53 rfl (by kernel_rfl)) rfl ⟨_, _, _, rfl, ((HO_7.out.set (by omega) _).set (by omega) _).set (by omega) _, HB_7.out.trans (hkb.below (B := w.heap.size) (by omega) (by omega))⟩
    · have hz0 : rl = 0 := by omega
      have HEM := Lib.hid (HRL.out.2 hz0)
      subst hz0
      have HOz : Hid (outP P 7 = outP P 6) := outP_no HP6.out HEM.out
      have HOq := HO_6
      rw [← HOz.out] at HOq
      have HLq := HLN_6
      rw [← HOz.out] at HLq
      have HO_7 := HOq
      have HLN_7 := HLq
      clear HOq HLq HOz
      have x0 := cell_of_row _ _ 0 _ _ _ HXB_6.out
      have y0 := frozen_of_row _ _ 0 _ _ HXB_6.out
      have x1 := cell_of_row _ _ 1 _ _ _ HXB_6.out
      have y1 := frozen_of_row _ _ 1 _ _ HXB_6.out
      have x2 := cell_of_row _ _ 2 _ _ _ HXB_6.out
      have y2 := frozen_of_row _ _ 2 _ _ HXB_6.out
      go_wp2_with fail
      have hkb := (((Kb.refl (w.heap.size + 1) w11).set 0 (.int .i64 98)).set 1 (.slice none 0 0)).set 2 (.slice A7 5 c7)
      have hres : (((w11.setCell ⟨w.heap.size + 1, 0, none⟩ (.int .i64 98)).setCell ⟨w.heap.size + 1, 1, none⟩ (.slice none 0 0)).setCell ⟨w.heap.size + 1, 2, none⟩ (.slice A7 5 c7)).heap[w.heap.size + 1]? = some (.cells #[.int .i64 98, .slice none 0 0, .slice A7 5 c7] 53 (0, 0)) := by rw [heap_set_row (heap_set_row (heap_set_row HXB_6.out))]; rfl
      exact bodyPost_ret (results_cell1 rfl _ _ (w.heap.size + 1) 53 _ (0, 0) _ rfl hres Tryd.underlying53 rfl (by kernel_rfl)) rfl ⟨_, _, _, rfl, ((HO_7.out.set (by omega) _).set (by omega) _).set (by omega) _, HB_6.out.trans (hkb.below (B := w.heap.size) (by omega) (by omega))⟩



set_option maxRecDepth 100000 in
set_option maxHeartbeats 12800000 in
theorem robj_rec (I K S Z L R ST : Nat) (name : List UInt8) (rules : List Rl) (A1 : Option Addr) (c1 : Nat) (A2 : Option Addr) (c2 : Nat) (w : World)
    (hn1 : SL w w.heap.size (.slice A1 name.length c1) name) (hk1 : RL w w.heap.size (.slice A2 rules.length c2) rules) (hr : chkR rules = 0)
    (hI : I < 65536) (hK : 3 ≤ K ∧ K ≤ 5) (hZ : Z < 65536) (hL : L < 256) (hR : R < 256) (hS : S < 256) (hST : ST < 256) (hn0 : name = [])
    (P : List (Int × List UInt8)) (hP : P = [(130, kindB K L R), (131, putL I 2), (132, name), (128, []), (136, if (S : Int) = 0 then [] else [UInt8.ofNat S]), (138, [UInt8.ofNat ST]), (134, rM rules)]) :
    Calls Tryd.prog 35 #[.agg #[.int .i64 (I : Int), .int .i64 (K : Int), .slice A1 name.length c1, .int .i64 (S : Int), .int .i64 (Z : Int), .int .i64 (L : Int), .int .i64 (R : Int), .int .i64 (ST : Int), .slice A2 rules.length c2]] w fun e w' => ∃ A n c, e = .returned (.agg #[.int .i64 98, .slice none 0 0, .slice A n c]) ∧ OH w' (w.heap.size + 1 + 1) (w.heap.size + 1) (.slice A n c) (outP P 7) ∧ Below w.heap.size w w' := by
  have HKR : Hid (∀ W, Calls Tryd.prog 50 #[.int .i64 (K : Int)] W fun e w' => e = .returned (.bool true) ∧ W = w') := fun W => by
    have h := rrec_any (K : Int) (by omega) W
    rw [show recK (K : Int) = true from by unfold recK; simp; try omega] at h
    exact h
  have hkb : kindB K L R = [UInt8.ofNat K] ++ [UInt8.ofNat L, UInt8.ofNat R] := by
    unfold kindB
    rw [show recK ((K : Nat) : Int) = true from by unfold recK; simp; try omega]
    rfl
  have HN0 := Lib.hid hn0
  clear hn0
  have HRL := Lib.hid (rM_pos rules hr)
  have HCR := Lib.hid (chkR_cnt rules hr).2
  have HT64 := Lib.hid fun (W : World) => two_any I hI W
  have HTZ := Lib.hid fun (W : World) => two_any Z hZ W
  have HRN := Lib.hid fun (W : World) (hW : Below w.heap.size w W) => rencr_fs rules _ W (hk1.on hW) (fun k h => Nat.le_trans (HCR.out k h) (by omega))
  unfold EnrF at HRN
  have HP0 : Hid (P[0]? = some (130, kindB K L R)) := by show _ = _; rw [hP]; rfl
  have HP1 : Hid (P[1]? = some (131, putL I 2)) := by show _ = _; rw [hP]; rfl
  have HP2 : Hid (P[2]? = some (132, name)) := by show _ = _; rw [hP]; rfl
  have HP3 : Hid (P[3]? = some (128, [])) := by show _ = _; rw [hP]; rfl
  have HP4 : Hid (P[4]? = some (136, if (S : Int) = 0 then [] else [UInt8.ofNat S])) := by show _ = _; rw [hP]; rfl
  have HP5 : Hid (P[5]? = some (138, [UInt8.ofNat ST])) := by show _ = _; rw [hP]; rfl
  have HP6 : Hid (P[6]? = some (134, rM rules)) := by show _ = _; rw [hP]; rfl
  have HO0 : Hid (outP P 0 = []) := by show _ = _; unfold outP; rfl
  have HPL := Lib.hid fun k => outP_len P k
  have HNM := Lib.hid hn1
  have HNA : Hid (0 < name.length → ∃ b, (Value.slice A1 name.length c1).ownBlock = some b ∧ b < w.heap.size) := fun hp => by
    obtain ⟨A, c, hv, _, _, h3⟩ := hn1
    obtain ⟨rfl, _, rfl⟩ := Value.slice.inj hv
    obtain ⟨b, o, rfl, hb, _⟩ := h3 hp
    exact ⟨b, rfl, hb⟩
  have hl2 : 0 < (putL I 2).length := by rw [putL_length]; omega
  have hl2z : 0 < (putL Z 2).length := by rw [putL_length]; omega
  have HLI := Lib.hid (putL_length I 2)
  have HLZ := Lib.hid (putL_length Z 2)
  have hbk : ((K : Nat) : Int) = (K : Int) := rfl
  clear hn1 hk1 hP hr HCR hbk
  generalize hnl : name.length = nl at *
  generalize hrl : rules.length = rl at *
  have HNL := Lib.hid hnl.symm
  clear hnl hrl
  have hbx := (alloc2_below w (Obj.cells #[.int .i64 (I : Int), .int .i64 (K : Int), .slice A1 nl c1, .int .i64 (S : Int), .int .i64 (Z : Int), .int .i64 (L : Int), .int .i64 (R : Int), .int .i64 (ST : Int), .slice A2 rl c2] 25) (Obj.cells #[.int .i64 0, .slice none 0 0, .slice none 0 0] 53))
  have hb1 := hbx.alloc hbx.size (Obj.cells #[.int .u8 (K : Int)] 5)
  have hz00 : (w.alloc (Obj.cells #[.int .i64 (I : Int), .int .i64 (K : Int), .slice A1 nl c1, .int .i64 (S : Int), .int .i64 (Z : Int), .int .i64 (L : Int), .int .i64 (R : Int), .int .i64 (ST : Int), .slice A2 rl c2] 25)).heap.size = w.heap.size + 1 := alloc_size _ _
  have hz0 : ((w.alloc (Obj.cells #[.int .i64 (I : Int), .int .i64 (K : Int), .slice A1 nl c1, .int .i64 (S : Int), .int .i64 (Z : Int), .int .i64 (L : Int), .int .i64 (R : Int), .int .i64 (ST : Int), .slice A2 rl c2] 25)).alloc (Obj.cells #[.int .i64 0, .slice none 0 0, .slice none 0 0] 53)).heap.size = w.heap.size + 1 + 1 := by rw [alloc_size, alloc_size]
  have hz1 : (((w.alloc (Obj.cells #[.int .i64 (I : Int), .int .i64 (K : Int), .slice A1 nl c1, .int .i64 (S : Int), .int .i64 (Z : Int), .int .i64 (L : Int), .int .i64 (R : Int), .int .i64 (ST : Int), .slice A2 rl c2] 25)).alloc (Obj.cells #[.int .i64 0, .slice none 0 0, .slice none 0 0] 53)).alloc (Obj.cells #[.int .u8 (K : Int)] 5)).heap.size = w.heap.size + 1 + 1 + 1 := by rw [alloc_size, alloc_size, alloc_size]
  have hnb := (Below.heap_alloc ((w.alloc (Obj.cells #[.int .i64 (I : Int), .int .i64 (K : Int), .slice A1 nl c1, .int .i64 (S : Int), .int .i64 (Z : Int), .int .i64 (L : Int), .int .i64 (R : Int), .int .i64 (ST : Int), .slice A2 rl c2] 25)).alloc (Obj.cells #[.int .i64 0, .slice none 0 0, .slice none 0 0] 53)) (Obj.cells #[.int .u8 (K : Int)] 5) w.heap.size (by rw [hz0]; omega)).trans ((Below.heap_alloc (w.alloc (Obj.cells #[.int .i64 (I : Int), .int .i64 (K : Int), .slice A1 nl c1, .int .i64 (S : Int), .int .i64 (Z : Int), .int .i64 (L : Int), .int .i64 (R : Int), .int .i64 (ST : Int), .slice A2 rl c2] 25)) (Obj.cells #[.int .i64 0, .slice none 0 0, .slice none 0 0] 53) w.heap.size (by rw [hz00]; omega)).trans (heap_alloc_new w (Obj.cells #[.int .i64 (I : Int), .int .i64 (K : Int), .slice A1 nl c1, .int .i64 (S : Int), .int .i64 (Z : Int), .int .i64 (L : Int), .int .i64 (R : Int), .int .i64 (ST : Int), .slice A2 rl c2] 25)))
  have hxb := (Below.heap_alloc ((w.alloc (Obj.cells #[.int .i64 (I : Int), .int .i64 (K : Int), .slice A1 nl c1, .int .i64 (S : Int), .int .i64 (Z : Int), .int .i64 (L : Int), .int .i64 (R : Int), .int .i64 (ST : Int), .slice A2 rl c2] 25)).alloc (Obj.cells #[.int .i64 0, .slice none 0 0, .slice none 0 0] 53)) (Obj.cells #[.int .u8 (K : Int)] 5) (w.heap.size + 1) (by rw [hz0]; omega)).trans ((congrArg (fun k => ((w.alloc (Obj.cells #[.int .i64 (I : Int), .int .i64 (K : Int), .slice A1 nl c1, .int .i64 (S : Int), .int .i64 (Z : Int), .int .i64 (L : Int), .int .i64 (R : Int), .int .i64 (ST : Int), .slice A2 rl c2] 25)).alloc (Obj.cells #[.int .i64 0, .slice none 0 0, .slice none 0 0] 53)).heap[k]?) hz00.symm).trans (heap_alloc_new (w.alloc (Obj.cells #[.int .i64 (I : Int), .int .i64 (K : Int), .slice A1 nl c1, .int .i64 (S : Int), .int .i64 (Z : Int), .int .i64 (L : Int), .int .i64 (R : Int), .int .i64 (ST : Int), .slice A2 rl c2] 25)) (Obj.cells #[.int .i64 0, .slice none 0 0, .slice none 0 0] 53)))
  have hnk := heap_alloc_new ((w.alloc (Obj.cells #[.int .i64 (I : Int), .int .i64 (K : Int), .slice A1 nl c1, .int .i64 (S : Int), .int .i64 (Z : Int), .int .i64 (L : Int), .int .i64 (R : Int), .int .i64 (ST : Int), .slice A2 rl c2] 25)).alloc (Obj.cells #[.int .i64 0, .slice none 0 0, .slice none 0 0] 53)) (Obj.cells #[.int .u8 (K : Int)] 5)
  rw [hz0] at hnk
  have hob := OB.of_cells (w := ((w.alloc (Obj.cells #[.int .i64 (I : Int), .int .i64 (K : Int), .slice A1 nl c1, .int .i64 (S : Int), .int .i64 (Z : Int), .int .i64 (L : Int), .int .i64 (R : Int), .int .i64 (ST : Int), .slice A2 rl c2] 25)).alloc (Obj.cells #[.int .i64 0, .slice none 0 0, .slice none 0 0] 53)).alloc (Obj.cells #[.int .u8 (K : Int)] 5)) (base := w.heap.size + 1 + 1) (g := w.heap.size + 1 + 1) (n := 1) (l := [UInt8.ofNat K]) (Nat.le_refl _) rfl (by unfold maxLen; omega) (by rw [hnk]; simp [bv]; try omega)
  have HB1 := Lib.hid hb1
  have HZ1 := Lib.hid hz1
  have HNB := Lib.hid hnb
  have HXB := Lib.hid hxb
  have HOB := Lib.hid hob
  clear hbx hb1 hz0 hz00 hz1 hnb hxb hnk hob
  go_enter Tryd.func35, Tryd.ntmps35
  go_wp2_with fail
  refine (HKR.out _).mono ?_
  rintro e wz ⟨rfl, rfl⟩
  generalize (((w.alloc (Obj.cells #[.int .i64 (I : Int), .int .i64 (K : Int), .slice A1 nl c1, .int .i64 (S : Int), .int .i64 (Z : Int), .int .i64 (L : Int), .int .i64 (R : Int), .int .i64 (ST : Int), .slice A2 rl c2] 25)).alloc (Obj.cells #[.int .i64 0, .slice none 0 0, .slice none 0 0] 53)).alloc (Obj.cells #[.int .u8 (K : Int)] 5)) = w1 at *
  have hz1 : w1.heap.size = w.heap.size + 1 + 1 + 1 := HZ1.out
  have hza : w1.heap.size ≤ w.heap.size + 1 + 1 + 1 := by omega
  have hzb : w.heap.size + 1 + 1 + 1 ≤ w1.heap.size := by omega
  clear hz1 HZ1
  have HZA := Lib.hid hza
  clear hza
  have hlt : w.heap.size < w1.heap.size := by omega
  have f0 := cell_of_row _ _ 0 _ _ _ HNB.out
  have f1 := cell_of_row _ _ 1 _ _ _ HNB.out
  have f2 := cell_of_row _ _ 2 _ _ _ HNB.out
  have f3 := cell_of_row _ _ 3 _ _ _ HNB.out
  have f4 := cell_of_row _ _ 4 _ _ _ HNB.out
  have f5 := cell_of_row _ _ 5 _ _ _ HNB.out
  have f6 := cell_of_row _ _ 6 _ _ _ HNB.out
  have f7 := cell_of_row _ _ 7 _ _ _ HNB.out
  have f8 := cell_of_row _ _ 8 _ _ _ HNB.out
  have hba := alloc_below w1 (Obj.cells #[.int .u8 (L : Int), .int .u8 (R : Int)] 5)
  have HBA := Lib.hid hba
  clear hba
  have hba2 := heap_alloc_new w1 (Obj.cells #[.int .u8 (L : Int), .int .u8 (R : Int)] 5)
  have HNA2 := Lib.hid hba2
  clear hba2
  have HCS : Hid ((#[.int .u8 (L : Int), .int .u8 (R : Int)] : Array Value) = ([UInt8.ofNat L, UInt8.ofNat R].map bv).toArray) := by show _ = _; simp [bv, Nat.mod_eq_of_lt hL, Nat.mod_eq_of_lt hR]
  have hbs : w.heap.size + 1 + 1 ≤ w1.heap.size := by omega
  have HBS := Lib.hid hbs
  clear hbs
  go_wp2_with (at_builtin; refine wpList_appN rfl _ _ rfl w1 (w.heap.size + 1 + 1) _ [UInt8.ofNat K] [UInt8.ofNat L, UInt8.ofNat R] w1.heap.size 2 _ rfl rfl rfl HBA.out HOB.out HNA2.out HCS.out (by simp) HBS.out ?_; intro v2 w2 ho2 hb2; refine Hid.out ?_)
  have hnb2 := (hb2.block w.heap.size (by omega)).trans HNB.out
  have HNB2 := Lib.hid hnb2
  have HXB2 := Lib.hid ((hb2.block (w.heap.size + 1) (by omega)).trans HXB.out)
  have HB2 := Lib.hid (HB1.out.trans (hb2.mono (by omega)))
  have HO2 := Lib.hid ho2
  have hs2 := hb2.size
  obtain ⟨A5, c5, rfl⟩ := ho2.value
  clear hb2 ho2 hnb2 HBA HNA2 HCS HBS HOB HB1 HNB HXB
  have hkl : ([UInt8.ofNat K] ++ [UInt8.ofNat L, UInt8.ofNat R] : List UInt8).length = 3 := rfl
  rw [hkl] at HO2
  clear hkl
  clear f0 f1 f2 f3 f4 f5 f6 f7 f8
  have hlt2 : w.heap.size < w2.heap.size := by omega
  have f0 := cell_of_row _ _ 0 _ _ _ HNB2.out
  have f1 := cell_of_row _ _ 1 _ _ _ HNB2.out
  have f2 := cell_of_row _ _ 2 _ _ _ HNB2.out
  have f3 := cell_of_row _ _ 3 _ _ _ HNB2.out
  have f4 := cell_of_row _ _ 4 _ _ _ HNB2.out
  have f5 := cell_of_row _ _ 5 _ _ _ HNB2.out
  have f6 := cell_of_row _ _ 6 _ _ _ HNB2.out
  have f7 := cell_of_row _ _ 7 _ _ _ HNB2.out
  have f8 := cell_of_row _ _ 8 _ _ _ HNB2.out
  refine Lib.hid ?_
  go_wp2_with fail
  refine (HT64.out _).mono ?_
  rintro e w3 ⟨v3, rfl, hf3, hb3⟩
  have hf31 := hf3.1
  obtain ⟨A6, c6, rfl, _⟩ := hf31
  rw [HLI.out] at hf3
  rw [HLI.out]
  have hs3 := hb3.size
  have hnb3 := (hb3.block w.heap.size hlt2).trans HNB2.out
  have hba := alloc_below w3 (Obj.cells #[.int .i64 130, (.slice A5 3 c5), .slice none 0 0, .int .i64 131, .slice A6 2 c6, .slice none 0 0] 53)
  have hna := heap_alloc_new w3 (Obj.cells #[.int .i64 130, (.slice A5 3 c5), .slice none 0 0, .int .i64 131, .slice A6 2 c6, .slice none 0 0] 53)
  have hfx1 : FX w3 (w.heap.size + 1) (.slice A5 3 c5) (kindB K L R) := by rw [hkb]; exact (FX.ofOB HO2.out (by omega)).on hb3
  have hfx2 : FX w3 (w.heap.size + 1) (.slice A6 2 c6) (putL I 2) := FX.of hf3 (by omega)
  have hoh := OH.two (base := w.heap.size + 1 + 1) (x := w.heap.size + 1) (by omega) (hfx1.on hba) (hfx2.on hba)
    (fun hp e => by have := (HO2.out.ltB w3.heap.size e).2; omega)
    (fun hp e => by
      obtain ⟨A, c, hv, _, _, h3⟩ := hf3.1
      obtain ⟨rfl, _, rfl⟩ := Value.slice.inj hv
      obtain ⟨b, o, rfl, hb, _⟩ := h3 hp
      simp only [Value.ownBlock, Option.some.injEq] at e
      omega) hna
  have hbe := (hba.block w.heap.size (by omega)).trans hnb3
  have hxe := (hba.block (w.heap.size + 1) (by omega)).trans ((hb3.block (w.heap.size + 1) (by omega)).trans HXB2.out)
  have HB4 := Lib.hid (HB2.out.trans ((hb3.trans (hba.mono hs3)).mono (by omega)))
  have HO4 : Hid (OH (w3.alloc (Obj.cells #[.int .i64 130, (.slice A5 3 c5), .slice none 0 0, .int .i64 131, .slice A6 2 c6, .slice none 0 0] 53)) (w.heap.size + 1 + 1) (w.heap.size + 1) (.slice (some ⟨w3.heap.size, 0, none⟩) 2 2) (outP P 2)) := by
    show OH _ _ _ _ _
    rw [show outP P 2 = [(130, kindB K L R), (131, putL I 2)] from by
      rw [outP_yes HP1.out hl2, outP_yes HP0.out (kindB_len K L R).1, HO0.out]; rfl]
    exact hoh
  have hz4 := alloc_size w3 (Obj.cells #[.int .i64 130, (.slice A5 3 c5), .slice none 0 0, .int .i64 131, .slice A6 2 c6, .slice none 0 0] 53)
  have HZ4 : Hid (w3.heap.size + 1 ≤ (w3.alloc (Obj.cells #[.int .i64 130, (.slice A5 3 c5), .slice none 0 0, .int .i64 131, .slice A6 2 c6, .slice none 0 0] 53)).heap.size) := Nat.le_of_eq hz4.symm
  have HNB4 := Lib.hid hbe
  have HXB4 := Lib.hid hxe
  have HS4 : Hid (w.heap.size + 1 + 1 < w3.heap.size + 1) := by show _ < _; omega
  clear hf3 hb3 hnb3 hba hna hfx1 hfx2 hoh hbe hxe hz4 HO2 HB2 HNB2 HXB2 hs2 hkb
  clear f0 f1 f2 f3 f4 f5 f6 f7 f8
  have hlt4 : w.heap.size + 1 + 1 < (w3.alloc (Obj.cells #[.int .i64 130, (.slice A5 3 c5), .slice none 0 0, .int .i64 131, .slice A6 2 c6, .slice none 0 0] 53)).heap.size := Nat.lt_of_lt_of_le HS4.out HZ4.out
  have hlt4b : w.heap.size < (w3.alloc (Obj.cells #[.int .i64 130, (.slice A5 3 c5), .slice none 0 0, .int .i64 131, .slice A6 2 c6, .slice none 0 0] 53)).heap.size := by omega
  have hlt4c : w.heap.size + 1 < (w3.alloc (Obj.cells #[.int .i64 130, (.slice A5 3 c5), .slice none 0 0, .int .i64 131, .slice A6 2 c6, .slice none 0 0] 53)).heap.size := by omega
  clear HZ4 HS4
  have HLN : Hid ((outP P 2).length = 2) := by show _ = _; rw [outP_yes HP1.out hl2, outP_yes HP0.out (kindB_len K L R).1, HO0.out]; rfl
  have f0 := cell_of_row _ _ 0 _ _ _ HNB4.out
  have f1 := cell_of_row _ _ 1 _ _ _ HNB4.out
  have f2 := cell_of_row _ _ 2 _ _ _ HNB4.out
  have f3 := cell_of_row _ _ 3 _ _ _ HNB4.out
  have f4 := cell_of_row _ _ 4 _ _ _ HNB4.out
  have f5 := cell_of_row _ _ 5 _ _ _ HNB4.out
  have f6 := cell_of_row _ _ 6 _ _ _ HNB4.out
  have f7 := cell_of_row _ _ 7 _ _ _ HNB4.out
  have f8 := cell_of_row _ _ 8 _ _ _ HNB4.out
  have HOz : Hid (outP P 3 = outP P 2) := outP_no HP2.out HN0.out
  have HOq := HO4
  rw [← HOz.out] at HOq
  have HLq := HLN
  rw [← HOz.out] at HLq
  have HO_3 := HOq
  have HLN_3 := HLq
  clear HOq HLq HOz
  have hz0 : nl = 0 := by rw [HNL.out, HN0.out]; rfl
  subst hz0
  have HOz : Hid (outP P 4 = outP P 3) := outP_no HP3.out rfl
  have HOq := HO_3
  rw [← HOz.out] at HOq
  have HLq := HLN_3
  rw [← HOz.out] at HLq
  have HO_4 := HOq
  have HLN_4 := HLq
  clear HOq HLq HOz
  by_cases hsz : S = 0
  · subst hsz
    have HOz : Hid (outP P 5 = outP P 4) := outP_no HP4.out (if_pos rfl)
    have HOq := HO_4
    rw [← HOz.out] at HOq
    have HLq := HLN_4
    rw [← HOz.out] at HLq
    have HO_5 := HOq
    have HLN_5 := HLq
    clear HOq HLq HOz
    have hbb := alloc_below (w3.alloc (Obj.cells #[.int .i64 130, (.slice A5 3 c5), .slice none 0 0, .int .i64 131, .slice A6 2 c6, .slice none 0 0] 53)) (Obj.cells #[.int .u8 (ST : Int)] 5)
    have hff := FS.new (w3.alloc (Obj.cells #[.int .i64 130, (.slice A5 3 c5), .slice none 0 0, .int .i64 131, .slice A6 2 c6, .slice none 0 0] 53)) #[.int .u8 (ST : Int)] [UInt8.ofNat ST] (by simp [bv, Nat.mod_eq_of_lt hST]) (by simp)
    obtain ⟨wb, hwb⟩ : ∃ z, z = (w3.alloc (Obj.cells #[.int .i64 130, (.slice A5 3 c5), .slice none 0 0, .int .i64 131, .slice A6 2 c6, .slice none 0 0] 53)).alloc (Obj.cells #[.int .u8 (ST : Int)] 5) := ⟨_, rfl⟩
    have hzb2 : wb.heap.size = (w3.alloc (Obj.cells #[.int .i64 130, (.slice A5 3 c5), .slice none 0 0, .int .i64 131, .slice A6 2 c6, .slice none 0 0] 53)).heap.size + 1 := by rw [hwb]; exact alloc_size _ _
    rw [show (w3.alloc (Obj.cells #[.int .i64 130, (.slice A5 3 c5), .slice none 0 0, .int .i64 131, .slice A6 2 c6, .slice none 0 0] 53)).heap.size = w3.heap.size + 1 from by simp only [alloc_size]] at hff hzb2
    rw [← hwb] at hbb hff
    have HOc := Lib.hid (HO_5.out.later hbb)
    have HF5 := Lib.hid hff
    have HNBc := Lib.hid ((hbb.block w.heap.size (by omega)).trans HNB4.out)
    have HXBc := Lib.hid ((hbb.block (w.heap.size + 1) (by omega)).trans HXB4.out)
    have HBc := Lib.hid (HB4.out.trans (hbb.mono (by omega)))
    have hwc : w.heap.size + 1 + 1 < wb.heap.size := by omega
    subst hwb
    have HZB := Lib.hid hzb2
    clear hbb hff hzb2
    have hba5 := alloc_below ((w3.alloc (Obj.cells #[.int .i64 130, (.slice A5 3 c5), .slice none 0 0, .int .i64 131, .slice A6 2 c6, .slice none 0 0] 53)).alloc (Obj.cells #[.int .u8 (ST : Int)] 5)) (Obj.cells #[.int .i64 138, .slice (some ⟨w3.heap.size + 1, 0, none⟩) 1 1, .slice none 0 0] 53)
    have HO7 := Lib.hid (HOc.out.later hba5)
    have HF7 := Lib.hid (FX.on (FX.of HF5.out (x := w.heap.size + 1) (by omega)) hba5)
    have HNE := Lib.hid (show 0 < ([UInt8.ofNat ST] : List UInt8).length → (Value.slice (some ⟨w3.heap.size + 1, 0, none⟩) 1 1).ownBlock ≠ (Value.slice (some ⟨w3.heap.size, 0, none⟩) 2 2).ownBlock from fun hp e => by have e3 := (HO_5.out.ltB (w3.heap.size + 1) e.symm).2; (try simp only [alloc_size] at e3); omega)
    have hbz : w.heap.size + 1 + 1 ≤ (((w3.alloc (Obj.cells #[.int .i64 130, (.slice A5 3 c5), .slice none 0 0, .int .i64 131, .slice A6 2 c6, .slice none 0 0] 53)).alloc (Obj.cells #[.int .u8 (ST : Int)] 5)).alloc (Obj.cells #[.int .i64 138, .slice (some ⟨w3.heap.size + 1, 0, none⟩) 1 1, .slice none 0 0] 53)).heap.size := by have hq1 := hlt4; (try simp only [alloc_size] at hq1); simp only [alloc_size]; omega
    have HBZ := Lib.hid hbz
    clear hbz
    have HL6 : Hid ((outP P 5).length ≤ 1000) := Nat.le_trans (HPL.out 5) (by omega)
    have HOY := Lib.hid (outP_yes HP5.out (by simp))
    have HLE : Hid ((outP P 5 ++ [(138, [UInt8.ofNat ST])]).length = 2 + 1) := by show _ = _; rw [List.length_append, HLN_5.out]; rfl
    have HBA5 := Lib.hid hba5
    clear hba5
    have hnob := heap_alloc_new ((w3.alloc (Obj.cells #[.int .i64 130, (.slice A5 3 c5), .slice none 0 0, .int .i64 131, .slice A6 2 c6, .slice none 0 0] 53)).alloc (Obj.cells #[.int .u8 (ST : Int)] 5)) (Obj.cells #[.int .i64 138, .slice (some ⟨w3.heap.size + 1, 0, none⟩) 1 1, .slice none 0 0] 53)
    rw [show ((w3.alloc (Obj.cells #[.int .i64 130, (.slice A5 3 c5), .slice none 0 0, .int .i64 131, .slice A6 2 c6, .slice none 0 0] 53)).alloc (Obj.cells #[.int .u8 (ST : Int)] 5)).heap.size = w3.heap.size + 1 + 1 from by simp only [alloc_size]] at hnob
    have HNOB := Lib.hid hnob
    clear hnob
    go_wp2_with (at_builtin; refine wpList_appH rfl _ _ rfl (w.heap.size + 1 + 1) (w.heap.size + 1) _ (outP P 5) 138 _ [UInt8.ofNat ST] (w3.heap.size + 1 + 1) rfl rfl HO7.out HF7.out HNE.out HNOB.out HL6.out HBZ.out ?_; intro v7 w11 ho7 hb7; refine Hid.out ?_)
    have hbw : Below (w.heap.size + 1 + 1) ((w3.alloc (Obj.cells #[.int .i64 130, (.slice A5 3 c5), .slice none 0 0, .int .i64 131, .slice A6 2 c6, .slice none 0 0] 53)).alloc (Obj.cells #[.int .u8 (ST : Int)] 5)) w11 := (HBA5.out.mono (by omega)).trans hb7
    have HNBn := Lib.hid ((hbw.block w.heap.size (by omega)).trans HNBc.out)
    have HXBn := Lib.hid ((hbw.block (w.heap.size + 1) (by omega)).trans HXBc.out)
    have HBn := Lib.hid (HBc.out.trans (hbw.mono (by omega)))
    have hltn : w.heap.size + 1 + 1 < w11.heap.size := by have := hbw.size; omega
    have hltnb : w.heap.size < w11.heap.size := by omega
    have hltnc : w.heap.size + 1 < w11.heap.size := by omega
    obtain ⟨A7, c7, hv7⟩ := ho7.value
    rw [HLE.out] at hv7
    subst hv7
    rw [← HOY.out] at ho7
    have HOn := Lib.hid ho7
    have HLNn : Hid ((outP P 6).length = 2 + 1) := by show _ = _; rw [HOY.out]; exact HLE.out
    clear ho7 hb7 hbw HO7 HF7 HNE HBZ HL6 HOY HLE HBA5 HNOB f0 f1 f2 f3 f4 f5 f6 f7 f8
    have f0 := cell_of_row _ _ 0 _ _ _ HNBn.out
    have f1 := cell_of_row _ _ 1 _ _ _ HNBn.out
    have f2 := cell_of_row _ _ 2 _ _ _ HNBn.out
    have f3 := cell_of_row _ _ 3 _ _ _ HNBn.out
    have f4 := cell_of_row _ _ 4 _ _ _ HNBn.out
    have f5 := cell_of_row _ _ 5 _ _ _ HNBn.out
    have f6 := cell_of_row _ _ 6 _ _ _ HNBn.out
    have f7 := cell_of_row _ _ 7 _ _ _ HNBn.out
    have f8 := cell_of_row _ _ 8 _ _ _ HNBn.out
    refine Lib.hid ?_
    obtain ⟨nn5, hnn5⟩ : ∃ z, z = 2 + 1 := ⟨_, rfl⟩
    have HO_6 := HOn
    clear HOn
    have HB_6 := HBn
    clear HBn
    have HNB_6 := HNBn
    clear HNBn
    have HXB_6 := HXBn
    clear HXBn
    have HLN_6 := HLNn
    clear HLNn
    clear hnn5 nn5
    by_cases hrz : 0 < rl
    · have hri : (0 : Int) < (rl : Int) := by omega
      have hrd : decide ((0 : Int) < (rl : Int)) = true := decide_eq_true hri
      have hpo := HRL.out.1 hrz
      go_wp2_with fail
      refine (HRN.out _ HB_6.out).mono ?_
      rintro e ww ⟨v5, rfl, hf5, hb5⟩
      have hf51 := hf5.1
      obtain ⟨A8, c8, rfl, _⟩ := hf51
      have HOc := Lib.hid (HO_6.out.later hb5)
      have hsc := hb5.size
      have HF5 := Lib.hid hf5
      have HNBc := Lib.hid ((hb5.block w.heap.size (by omega)).trans HNB_6.out)
      have HXBc := Lib.hid ((hb5.block (w.heap.size + 1) (by omega)).trans HXB_6.out)
      have HBc := Lib.hid (HB_6.out.trans (hb5.mono (by omega)))
      clear hf5 hb5
      have hwc : w.heap.size + 1 + 1 < ww.heap.size := by omega
      generalize rM rules = LM at *
      have hba5 := alloc_below ww (Obj.cells #[.int .i64 134, .slice A8 LM.length c8, .slice none 0 0] 53)
      have HO7 := Lib.hid (HOc.out.later hba5)
      have HF7 := Lib.hid (FX.on (FX.of HF5.out (x := w.heap.size + 1) (by omega)) hba5)
      have HNE := Lib.hid (show 0 < (LM : List UInt8).length → (Value.slice A8 LM.length c8).ownBlock ≠ (Value.slice A7 3 c7).ownBlock from fun hp e => by obtain ⟨bb, e1, e2⟩ := HF5.out.2.out hp; have e3 := (HO_6.out.ltB bb (e.symm.trans e1)).2; omega)
      have hbz : w.heap.size + 1 + 1 ≤ (ww.alloc (Obj.cells #[.int .i64 134, .slice A8 LM.length c8, .slice none 0 0] 53)).heap.size := by have hq1 := hlt4; (try simp only [alloc_size] at hq1); simp only [alloc_size]; omega
      have HBZ := Lib.hid hbz
      clear hbz
      have HL6 : Hid ((outP P 6).length ≤ 1000) := Nat.le_trans (HPL.out 6) (by omega)
      have HOY := Lib.hid (outP_yes HP6.out hpo)
      have HLE : Hid ((outP P 6 ++ [(134, LM)]).length = 3 + 1) := by show _ = _; rw [List.length_append, HLN_6.out]; rfl
      have HBA5 := Lib.hid hba5
      clear hba5
      have hnob := heap_alloc_new ww (Obj.cells #[.int .i64 134, .slice A8 LM.length c8, .slice none 0 0] 53)
      have HNOB := Lib.hid hnob
      clear hnob
      go_wp2_with (at_builtin; refine wpList_appH rfl _ _ rfl (w.heap.size + 1 + 1) (w.heap.size + 1) _ (outP P 6) 134 _ LM (ww.heap.size) rfl rfl HO7.out HF7.out HNE.out HNOB.out HL6.out HBZ.out ?_; intro v7 w12 ho7 hb7; refine Hid.out ?_)
      have hbw : Below (w.heap.size + 1 + 1) ww w12 := (HBA5.out.mono (by omega)).trans hb7
      have HNBn := Lib.hid ((hbw.block w.heap.size (by omega)).trans HNBc.out)
      have HXBn := Lib.hid ((hbw.block (w.heap.size + 1) (by omega)).trans HXBc.out)
      have HBn := Lib.hid (HBc.out.trans (hbw.mono (by omega)))
      have hltn : w.heap.size + 1 + 1 < w12.heap.size := by have := hbw.size; omega
      have hltnb : w.heap.size < w12.heap.size := by omega
      have hltnc : w.heap.size + 1 < w12.heap.size := by omega
      obtain ⟨A7, c7, hv7⟩ := ho7.value
      rw [HLE.out] at hv7
      subst hv7
      rw [← HOY.out] at ho7
      have HOn := Lib.hid ho7
      have HLNn : Hid ((outP P 7).length = 3 + 1) := by show _ = _; rw [HOY.out]; exact HLE.out
      clear ho7 hb7 hbw HO7 HF7 HNE HBZ HL6 HOY HLE HBA5 HNOB f0 f1 f2 f3 f4 f5 f6 f7 f8
      have f0 := cell_of_row _ _ 0 _ _ _ HNBn.out
      have f1 := cell_of_row _ _ 1 _ _ _ HNBn.out
      have f2 := cell_of_row _ _ 2 _ _ _ HNBn.out
      have f3 := cell_of_row _ _ 3 _ _ _ HNBn.out
      have f4 := cell_of_row _ _ 4 _ _ _ HNBn.out
      have f5 := cell_of_row _ _ 5 _ _ _ HNBn.out
      have f6 := cell_of_row _ _ 6 _ _ _ HNBn.out
      have f7 := cell_of_row _ _ 7 _ _ _ HNBn.out
      have f8 := cell_of_row _ _ 8 _ _ _ HNBn.out
      refine Lib.hid ?_
      obtain ⟨nn6, hnn6⟩ : ∃ z, z = 3 + 1 := ⟨_, rfl⟩
      have HO_7 := HOn
      clear HOn
      have HB_7 := HBn
      clear HBn
      have HNB_7 := HNBn
      clear HNBn
      have HXB_7 := HXBn
      clear HXBn
      have HLN_7 := HLNn
      clear HLNn
      clear hnn6 nn6
      have x0 := cell_of_row _ _ 0 _ _ _ HXB_7.out
      have y0 := frozen_of_row _ _ 0 _ _ HXB_7.out
      have x1 := cell_of_row _ _ 1 _ _ _ HXB_7.out
      have y1 := frozen_of_row _ _ 1 _ _ HXB_7.out
      have x2 := cell_of_row _ _ 2 _ _ _ HXB_7.out
      have y2 := frozen_of_row _ _ 2 _ _ HXB_7.out
      go_wp2_with fail
      have hkb := (((Kb.refl (w.heap.size + 1) w12).set 0 (.int .i64 98)).set 1 (.slice none 0 0)).set 2 (.slice A7 4 c7)
      have hres : (((w12.setCell ⟨w.heap.size + 1, 0, none⟩ (.int .i64 98)).setCell ⟨w.heap.size + 1, 1, none⟩ (.slice none 0 0)).setCell ⟨w.heap.size + 1, 2, none⟩ (.slice A7 4 c7)).heap[w.heap.size + 1]? = some (.cells #[.int .i64 98, .slice none 0 0, .slice A7 4 c7] 53 (0, 0)) := by rw [heap_set_row (heap_set_row (heap_set_row HXB_7.out))]; rfl
      exact bodyPost_ret (results_cell1 rfl _ _ (w.heap.size + 1) 53 _ (0, 0) _ rfl hres Tryd.underlying53 rfl (by kernel_rfl)) rfl ⟨_, _, _, rfl, ((HO_7.out.set (by omega) _).set (by omega) _).set (by omega) _, HB_7.out.trans (hkb.below (B := w.heap.size) (by omega) (by omega))⟩
    · have hz0 : rl = 0 := by omega
      have HEM := Lib.hid (HRL.out.2 hz0)
      subst hz0
      have HOz : Hid (outP P 7 = outP P 6) := outP_no HP6.out HEM.out
      have HOq := HO_6
      rw [← HOz.out] at HOq
      have HLq := HLN_6
      rw [← HOz.out] at HLq
      have HO_7 := HOq
      have HLN_7 := HLq
      clear HOq HLq HOz
      have x0 := cell_of_row _ _ 0 _ _ _ HXB_6.out
      have y0 := frozen_of_row _ _ 0 _ _ HXB_6.out
      have x1 := cell_of_row _ _ 1 _ _ _ HXB_6.out
      have y1 := frozen_of_row _ _ 1 _ _ HXB_6.out
      have x2 := cell_of_row _ _ 2 _ _ _ HXB_6.out
      have y2 := frozen_of_row _ _ 2 _ _ HXB_6.out
      go_wp2_with fail
      have hkb := (((Kb.refl (w.heap.size + 1) w11).set 0 (.int .i64 98)).set 1 (.slice none 0 0)).set 2 (.slice A7 3 c7)
      have hres : (((w11.setCell ⟨w.heap.size + 1, 0, none⟩ (.int .i64 98)).setCell ⟨w.heap.size + 1, 1, none⟩ (.slice none 0 0)).setCell ⟨w.heap.size + 1, 2, none⟩ (.slice A7 3 c7)).heap[w.heap.size + 1]? = some (.cells #[.int .i64 98, .slice none 0 0, .slice A7 3 c7] 53 (0, 0)) := by rw [heap_set_row (heap_set_row (heap_set_row HXB_6.out))]; rfl
      exact bodyPost_ret (results_cell1 rfl _ _ (w.heap.size + 1) 53 _ (0, 0) _ rfl hres Tryd.underlying53 rfl (by kernel_rfl)) rfl ⟨_, _, _, rfl, ((HO_7.out.set (by omega) _).set (by omega) _).set (by omega) _, HB_6.out.trans (hkb.below (B := w.heap.size) (by omega) (by omega))⟩
  · have hse : (if (S : Int) = 0 then [] else [UInt8.ofNat S]) = [UInt8.ofNat S] := if_neg (by omega)
    rw [hse] at HP4
    have hsb : ((S : Int) == 0) = false := beq_eq_false_iff_ne.2 (by omega)
    have hsc0 : ((S : Int) != 0) = true := bne_iff_ne.2 (by omega)
    have hsd : decide ((S : Int) = 0) = false := decide_eq_false (by omega)
    have hsn : ¬ (S : Int) = 0 := by omega
    have hbb := alloc_below (w3.alloc (Obj.cells #[.int .i64 130, (.slice A5 3 c5), .slice none 0 0, .int .i64 131, .slice A6 2 c6, .slice none 0 0] 53)) (Obj.cells #[.int .u8 (S : Int)] 5)
    have hff := FS.new (w3.alloc (Obj.cells #[.int .i64 130, (.slice A5 3 c5), .slice none 0 0, .int .i64 131, .slice A6 2 c6, .slice none 0 0] 53)) #[.int .u8 (S : Int)] [UInt8.ofNat S] (by simp [bv, Nat.mod_eq_of_lt hS]) (by simp)
    obtain ⟨wb, hwb⟩ : ∃ z, z = (w3.alloc (Obj.cells #[.int .i64 130, (.slice A5 3 c5), .slice none 0 0, .int .i64 131, .slice A6 2 c6, .slice none 0 0] 53)).alloc (Obj.cells #[.int .u8 (S : Int)] 5) := ⟨_, rfl⟩
    have hzb2 : wb.heap.size = (w3.alloc (Obj.cells #[.int .i64 130, (.slice A5 3 c5), .slice none 0 0, .int .i64 131, .slice A6 2 c6, .slice none 0 0] 53)).heap.size + 1 := by rw [hwb]; exact alloc_size _ _
    rw [show (w3.alloc (Obj.cells #[.int .i64 130, (.slice A5 3 c5), .slice none 0 0, .int .i64 131, .slice A6 2 c6, .slice none 0 0] 53)).heap.size = w3.heap.size + 1 from by simp only [alloc_size]] at hff hzb2
    rw [← hwb] at hbb hff
    have HOc := Lib.hid (HO_4.out.later hbb)
    have HF5 := Lib.hid hff
    have HNBc := Lib.hid ((hbb.block w.heap.size (by omega)).trans HNB4.out)
    have HXBc := Lib.hid ((hbb.block (w.heap.size + 1) (by omega)).trans HXB4.out)
    have HBc := Lib.hid (HB4.out.trans (hbb.mono (by omega)))
    have hwc : w.heap.size + 1 + 1 < wb.heap.size := by omega
    subst hwb
    have HZB := Lib.hid hzb2
    clear hbb hff hzb2
    have hba5 := alloc_below ((w3.alloc (Obj.cells #[.int .i64 130, (.slice A5 3 c5), .slice none 0 0, .int .i64 131, .slice A6 2 c6, .slice none 0 0] 53)).alloc (Obj.cells #[.int .u8 (S : Int)] 5)) (Obj.cells #[.int .i64 136, .slice (some ⟨w3.heap.size + 1, 0, none⟩) 1 1, .slice none 0 0] 53)
    have HO7 := Lib.hid (HOc.out.later hba5)
    have HF7 := Lib.hid (FX.on (FX.of HF5.out (x := w.heap.size + 1) (by omega)) hba5)
    have HNE := Lib.hid (show 0 < ([UInt8.ofNat S] : List UInt8).length → (Value.slice (some ⟨w3.heap.size + 1, 0, none⟩) 1 1).ownBlock ≠ (Value.slice (some ⟨w3.heap.size, 0, none⟩) 2 2).ownBlock from fun hp e => by have e3 := (HO_4.out.ltB (w3.heap.size + 1) e.symm).2; (try simp only [alloc_size] at e3); omega)
    have hbz : w.heap.size + 1 + 1 ≤ (((w3.alloc (Obj.cells #[.int .i64 130, (.slice A5 3 c5), .slice none 0 0, .int .i64 131, .slice A6 2 c6, .slice none 0 0] 53)).alloc (Obj.cells #[.int .u8 (S : Int)] 5)).alloc (Obj.cells #[.int .i64 136, .slice (some ⟨w3.heap.size + 1, 0, none⟩) 1 1, .slice none 0 0] 53)).heap.size := by have hq1 := hlt4; (try simp only [alloc_size] at hq1); simp only [alloc_size]; omega
    have HBZ := Lib.hid hbz
    clear hbz
    have HL6 : Hid ((outP P 4).length ≤ 1000) := Nat.le_trans (HPL.out 4) (by omega)
    have HOY := Lib.hid (outP_yes HP4.out (by simp))
    have HLE : Hid ((outP P 4 ++ [(136, [UInt8.ofNat S])]).length = 2 + 1) := by show _ = _; rw [List.length_append, HLN_4.out]; rfl
    have HBA5 := Lib.hid hba5
    clear hba5
    have hnob := heap_alloc_new ((w3.alloc (Obj.cells #[.int .i64 130, (.slice A5 3 c5), .slice none 0 0, .int .i64 131, .slice A6 2 c6, .slice none 0 0] 53)).alloc (Obj.cells #[.int .u8 (S : Int)] 5)) (Obj.cells #[.int .i64 136, .slice (some ⟨w3.heap.size + 1, 0, none⟩) 1 1, .slice none 0 0] 53)
    rw [show ((w3.alloc (Obj.cells #[.int .i64 130, (.slice A5 3 c5), .slice none 0 0, .int .i64 131, .slice A6 2 c6, .slice none 0 0] 53)).alloc (Obj.cells #[.int .u8 (S : Int)] 5)).heap.size = w3.heap.size + 1 + 1 from by simp only [alloc_size]] at hnob
    have HNOB := Lib.hid hnob
    clear hnob
    go_wp2_with (at_builtin; refine wpList_appH rfl _ _ rfl (w.heap.size + 1 + 1) (w.heap.size + 1) _ (outP P 4) 136 _ [UInt8.ofNat S] (w3.heap.size + 1 + 1) rfl rfl HO7.out HF7.out HNE.out HNOB.out HL6.out HBZ.out ?_; intro v7 w10 ho7 hb7; refine Hid.out ?_)
    have hbw : Below (w.heap.size + 1 + 1) ((w3.alloc (Obj.cells #[.int .i64 130, (.slice A5 3 c5), .slice none 0 0, .int .i64 131, .slice A6 2 c6, .slice none 0 0] 53)).alloc (Obj.cells #[.int .u8 (S : Int)] 5)) w10 := (HBA5.out.mono (by omega)).trans hb7
    have HNBn := Lib.hid ((hbw.block w.heap.size (by omega)).trans HNBc.out)
    have HXBn := Lib.hid ((hbw.block (w.heap.size + 1) (by omega)).trans HXBc.out)
    have HBn := Lib.hid (HBc.out.trans (hbw.mono (by omega)))
    have hltn : w.heap.size + 1 + 1 < w10.heap.size := by have := hbw.size; omega
    have hltnb : w.heap.size < w10.heap.size := by omega
    have hltnc : w.heap.size + 1 < w10.heap.size := by omega
    obtain ⟨A7, c7, hv7⟩ := ho7.value
    rw [HLE.out] at hv7
    subst hv7
    rw [← HOY.out] at ho7
    have HOn := Lib.hid ho7
    have HLNn : Hid ((outP P 5).length = 2 + 1) := by show _ = _; rw [HOY.out]; exact HLE.out
    clear ho7 hb7 hbw HO7 HF7 HNE HBZ HL6 HOY HLE HBA5 HNOB f0 f1 f2 f3 f4 f5 f6 f7 f8
    have f0 := cell_of_row _ _ 0 _ _ _ HNBn.out
    have f1 := cell_of_row _ _ 1 _ _ _ HNBn.out
    have f2 := cell_of_row _ _ 2 _ _ _ HNBn.out
    have f3 := cell_of_row _ _ 3 _ _ _ HNBn.out
    have f4 := cell_of_row _ _ 4 _ _ _ HNBn.out
    have f5 := cell_of_row _ _ 5 _ _ _ HNBn.out
    have f6 := cell_of_row _ _ 6 _ _ _ HNBn.out
    have f7 := cell_of_row _ _ 7 _ _ _ HNBn.out
    have f8 := cell_of_row _ _ 8 _ _ _ HNBn.out
    refine Lib.hid ?_
    obtain ⟨nn4, hnn4⟩ : ∃ z, z = 2 + 1 := ⟨_, rfl⟩
    have HO_5 := HOn
    clear HOn
    have HB_5 := HBn
    clear HBn
    have HNB_5 := HNBn
    clear HNBn
    have HXB_5 := HXBn
    clear HXBn
    have HLN_5 := HLNn
    clear HLNn
    clear hnn4 nn4
    have hbb := alloc_below w10 (Obj.cells #[.int .u8 (ST : Int)] 5)
    have hff := FS.new w10 #[.int .u8 (ST : Int)] [UInt8.ofNat ST] (by simp [bv, Nat.mod_eq_of_lt hST]) (by simp)
    obtain ⟨wb, hwb⟩ : ∃ z, z = w10.alloc (Obj.cells #[.int .u8 (ST : Int)] 5) := ⟨_, rfl⟩
    have hzb2 : wb.heap.size = w10.heap.size + 1 := by rw [hwb]; exact alloc_size _ _
    rw [← hwb] at hbb hff
    have HOc := Lib.hid (HO_5.out.later hbb)
    have HF5 := Lib.hid hff
    have HNBc := Lib.hid ((hbb.block w.heap.size (by omega)).trans HNB_5.out)
    have HXBc := Lib.hid ((hbb.block (w.heap.size + 1) (by omega)).trans HXB_5.out)
    have HBc := Lib.hid (HB_5.out.trans (hbb.mono (by omega)))
    have hwc : w.heap.size + 1 + 1 < wb.heap.size := by omega
    subst hwb
    have HZB := Lib.hid hzb2
    clear hbb hff hzb2
    have hba5 := alloc_below (w10.alloc (Obj.cells #[.int .u8 (ST : Int)] 5)) (Obj.cells #[.int .i64 138, .slice (some ⟨w10.heap.size, 0, none⟩) 1 1, .slice none 0 0] 53)
    have HO7 := Lib.hid (HOc.out.later hba5)
    have HF7 := Lib.hid (FX.on (FX.of HF5.out (x := w.heap.size + 1) (by omega)) hba5)
    have HNE := Lib.hid (show 0 < ([UInt8.ofNat ST] : List UInt8).length → (Value.slice (some ⟨w10.heap.size, 0, none⟩) 1 1).ownBlock ≠ (Value.slice A7 3 c7).ownBlock from fun hp e => by have e3 := (HO_5.out.ltB (w10.heap.size) e.symm).2; (try simp only [alloc_size] at e3); omega)
    have hbz : w.heap.size + 1 + 1 ≤ ((w10.alloc (Obj.cells #[.int .u8 (ST : Int)] 5)).alloc (Obj.cells #[.int .i64 138, .slice (some ⟨w10.heap.size, 0, none⟩) 1 1, .slice none 0 0] 53)).heap.size := by have hq1 := hlt4; (try simp only [alloc_size] at hq1); simp only [alloc_size]; omega
    have HBZ := Lib.hid hbz
    clear hbz
    have HL6 : Hid ((outP P 5).length ≤ 1000) := Nat.le_trans (HPL.out 5) (by omega)
    have HOY := Lib.hid (outP_yes HP5.out (by simp))
    have HLE : Hid ((outP P 5 ++ [(138, [UInt8.ofNat ST])]).length = 3 + 1) := by show _ = _; rw [List.length_append, HLN_5.out]; rfl
    have HBA5 := Lib.hid hba5
    clear hba5
    have hnob := heap_alloc_new (w10.alloc (Obj.cells #[.int .u8 (ST : Int)] 5)) (Obj.cells #[.int .i64 138, .slice (some ⟨w10.heap.size, 0, none⟩) 1 1, .slice none 0 0] 53)
    rw [show (w10.alloc (Obj.cells #[.int .u8 (ST : Int)] 5)).heap.size = w10.heap.size + 1 from by simp only [alloc_size]] at hnob
    have HNOB := Lib.hid hnob
    clear hnob
    go_wp2_with (at_builtin; refine wpList_appH rfl _ _ rfl (w.heap.size + 1 + 1) (w.heap.size + 1) _ (outP P 5) 138 _ [UInt8.ofNat ST] (w10.heap.size + 1) rfl rfl HO7.out HF7.out HNE.out HNOB.out HL6.out HBZ.out ?_; intro v7 w11 ho7 hb7; refine Hid.out ?_)
    have hbw : Below (w.heap.size + 1 + 1) (w10.alloc (Obj.cells #[.int .u8 (ST : Int)] 5)) w11 := (HBA5.out.mono (by omega)).trans hb7
    have HNBn := Lib.hid ((hbw.block w.heap.size (by omega)).trans HNBc.out)
    have HXBn := Lib.hid ((hbw.block (w.heap.size + 1) (by omega)).trans HXBc.out)
    have HBn := Lib.hid (HBc.out.trans (hbw.mono (by omega)))
    have hltn : w.heap.size + 1 + 1 < w11.heap.size := by have := hbw.size; omega
    have hltnb : w.heap.size < w11.heap.size := by omega
    have hltnc : w.heap.size + 1 < w11.heap.size := by omega
    obtain ⟨A7, c7, hv7⟩ := ho7.value
    rw [HLE.out] at hv7
    subst hv7
    rw [← HOY.out] at ho7
    have HOn := Lib.hid ho7
    have HLNn : Hid ((outP P 6).length = 3 + 1) := by show _ = _; rw [HOY.out]; exact HLE.out
    clear ho7 hb7 hbw HO7 HF7 HNE HBZ HL6 HOY HLE HBA5 HNOB f0 f1 f2 f3 f4 f5 f6 f7 f8
    have f0 := cell_of_row _ _ 0 _ _ _ HNBn.out
    have f1 := cell_of_row _ _ 1 _ _ _ HNBn.out
    have f2 := cell_of_row _ _ 2 _ _ _ HNBn.out
    have f3 := cell_of_row _ _ 3 _ _ _ HNBn.out
    have f4 := cell_of_row _ _ 4 _ _ _ HNBn.out
    have f5 := cell_of_row _ _ 5 _ _ _ HNBn.out
    have f6 := cell_of_row _ _ 6 _ _ _ HNBn.out
    have f7 := cell_of_row _ _ 7 _ _ _ HNBn.out
    have f8 := cell_of_row _ _ 8 _ _ _ HNBn.out
    refine Lib.hid ?_
    obtain ⟨nn5, hnn5⟩ : ∃ z, z = 3 + 1 := ⟨_, rfl⟩
    have HO_6 := HOn
    clear HOn
    have HB_6 := HBn
    clear HBn
    have HNB_6 := HNBn
    clear HNBn
    have HXB_6 := HXBn
    clear HXBn
    have HLN_6 := HLNn
    clear HLNn
    clear hnn5 nn5
    by_cases hrz : 0 < rl
    · have hri : (0 : Int) < (rl : Int) := by omega
      have hrd : decide ((0 : Int) < (rl : Int)) = true := decide_eq_true hri
      have hpo := HRL.out.1 hrz
      go_wp2_with fail
      refine (HRN.out _ HB_6.out).mono ?_
      rintro e ww ⟨v5, rfl, hf5, hb5⟩
      have hf51 := hf5.1
      obtain ⟨A8, c8, rfl, _⟩ := hf51
      have HOc := Lib.hid (HO_6.out.later hb5)
      have hsc := hb5.size
      have HF5 := Lib.hid hf5
      have HNBc := Lib.hid ((hb5.block w.heap.size (by omega)).trans HNB_6.out)
      have HXBc := Lib.hid ((hb5.block (w.heap.size + 1) (by omega)).trans HXB_6.out)
      have HBc := Lib.hid (HB_6.out.trans (hb5.mono (by omega)))
      clear hf5 hb5
      have hwc : w.heap.size + 1 + 1 < ww.heap.size := by omega
      generalize rM rules = LM at *
      have hba5 := alloc_below ww (Obj.cells #[.int .i64 134, .slice A8 LM.length c8, .slice none 0 0] 53)
      have HO7 := Lib.hid (HOc.out.later hba5)
      have HF7 := Lib.hid (FX.on (FX.of HF5.out (x := w.heap.size + 1) (by omega)) hba5)
      have HNE := Lib.hid (show 0 < (LM : List UInt8).length → (Value.slice A8 LM.length c8).ownBlock ≠ (Value.slice A7 4 c7).ownBlock from fun hp e => by obtain ⟨bb, e1, e2⟩ := HF5.out.2.out hp; have e3 := (HO_6.out.ltB bb (e.symm.trans e1)).2; omega)
      have hbz : w.heap.size + 1 + 1 ≤ (ww.alloc (Obj.cells #[.int .i64 134, .slice A8 LM.length c8, .slice none 0 0] 53)).heap.size := by have hq1 := hlt4; (try simp only [alloc_size] at hq1); simp only [alloc_size]; omega
      have HBZ := Lib.hid hbz
      clear hbz
      have HL6 : Hid ((outP P 6).length ≤ 1000) := Nat.le_trans (HPL.out 6) (by omega)
      have HOY := Lib.hid (outP_yes HP6.out hpo)
      have HLE : Hid ((outP P 6 ++ [(134, LM)]).length = 4 + 1) := by show _ = _; rw [List.length_append, HLN_6.out]; rfl
      have HBA5 := Lib.hid hba5
      clear hba5
      have hnob := heap_alloc_new ww (Obj.cells #[.int .i64 134, .slice A8 LM.length c8, .slice none 0 0] 53)
      have HNOB := Lib.hid hnob
      clear hnob
      go_wp2_with (at_builtin; refine wpList_appH rfl _ _ rfl (w.heap.size + 1 + 1) (w.heap.size + 1) _ (outP P 6) 134 _ LM (ww.heap.size) rfl rfl HO7.out HF7.out HNE.out HNOB.out HL6.out HBZ.out ?_; intro v7 w12 ho7 hb7; refine Hid.out ?_)
      have hbw : Below (w.heap.size + 1 + 1) ww w12 := (HBA5.out.mono (by omega)).trans hb7
      have HNBn := Lib.hid ((hbw.block w.heap.size (by omega)).trans HNBc.out)
      have HXBn := Lib.hid ((hbw.block (w.heap.size + 1) (by omega)).trans HXBc.out)
      have HBn := Lib.hid (HBc.out.trans (hbw.mono (by omega)))
      have hltn : w.heap.size + 1 + 1 < w12.heap.size := by have := hbw.size; omega
      have hltnb : w.heap.size < w12.heap.size := by omega
      have hltnc : w.heap.size + 1 < w12.heap.size := by omega
      obtain ⟨A7, c7, hv7⟩ := ho7.value
      rw [HLE.out] at hv7
      subst hv7
      rw [← HOY.out] at ho7
      have HOn := Lib.hid ho7
      have HLNn : Hid ((outP P 7).length = 4 + 1) := by show _ = _; rw [HOY.out]; exact HLE.out
      clear ho7 hb7 hbw HO7 HF7 HNE HBZ HL6 HOY HLE HBA5 HNOB f0 f1 f2 f3 f4 f5 f6 f7 f8
      have f0 := cell_of_row _ _ 0 _ _ _ HNBn.out
      have f1 := cell_of_row _ _ 1 _ _ _ HNBn.out
      have f2 := cell_of_row _ _ 2 _ _ _ HNBn.out
      have f3 := cell_of_row _ _ 3 _ _ _ HNBn.out
      have f4 := cell_of_row _ _ 4 _ _ _ HNBn.out
      have f5 := cell_of_row _ _ 5 _ _ _ HNBn.out
      have f6 := cell_of_row _ _ 6 _ _ _ HNBn.out
      have f7 := cell_of_row _ _ 7 _ _ _ HNBn.out
      have f8 := cell_of_row _ _ 8 _ _ _ HNBn.out
      refine Lib.hid ?_
      obtain ⟨nn6, hnn6⟩ : ∃ z, z = 4 + 1 := ⟨_, rfl⟩
      have HO_7 := HOn
      clear HOn
      have HB_7 := HBn
      clear HBn
      have HNB_7 := HNBn
      clear HNBn
      have HXB_7 := HXBn
      clear HXBn
      have HLN_7 := HLNn
      clear HLNn
      clear hnn6 nn6
      have x0 := cell_of_row _ _ 0 _ _ _ HXB_7.out
      have y0 := frozen_of_row _ _ 0 _ _ HXB_7.out
      have x1 := cell_of_row _ _ 1 _ _ _ HXB_7.out
      have y1 := frozen_of_row _ _ 1 _ _ HXB_7.out
      have x2 := cell_of_row _ _ 2 _ _ _ HXB_7.out
      have y2 := frozen_of_row _ _ 2 _ _ HXB_7.out
      go_wp2_with fail
      have hkb := (((Kb.refl (w.heap.size + 1) w12).set 0 (.int .i64 98)).set 1 (.slice none 0 0)).set 2 (.slice A7 5 c7)
      have hres : (((w12.setCell ⟨w.heap.size + 1, 0, none⟩ (.int .i64 98)).setCell ⟨w.heap.size + 1, 1, none⟩ (.slice none 0 0)).setCell ⟨w.heap.size + 1, 2, none⟩ (.slice A7 5 c7)).heap[w.heap.size + 1]? = some (.cells #[.int .i64 98, .slice none 0 0, .slice A7 5 c7] 53 (0, 0)) := by rw [heap_set_row (heap_set_row (heap_set_row HXB_7.out))]; rfl
      exact bodyPost_ret (results_cell1 rfl _ _ (w.heap.size + 1) 53 _ (0, 0) _ rfl hres Tryd.underlying53 rfl (by kernel_rfl)) rfl ⟨_, _, _, rfl, ((HO_7.out.set (by omega) _).set (by omega) _).set (by omega) _, HB_7.out.trans (hkb.below (B := w.heap.size) (by omega) (by omega))⟩
    · have hz0 : rl = 0 := by omega
      have HEM := Lib.hid (HRL.out.2 hz0)
      subst hz0
      have HOz : Hid (outP P 7 = outP P 6) := outP_no HP6.out HEM.out
      have HOq := HO_6
      rw [← HOz.out] at HOq
      have HLq := HLN_6
      rw [← HOz.out] at HLq
      have HO_7 := HOq
      have HLN_7 := HLq
      clear HOq HLq HOz
      have x0 := cell_of_row _ _ 0 _ _ _ HXB_6.out
      have y0 := frozen_of_row _ _ 0 _ _ HXB_6.out
      have x1 := cell_of_row _ _ 1 _ _ _ HXB_6.out
      have y1 := frozen_of_row _ _ 1 _ _ HXB_6.out
      have x2 := cell_of_row _ _ 2 _ _ _ HXB_6.out
      have y2 := frozen_of_row _ _ 2 _ _ HXB_6.out
      go_wp2_with fail
      have hkb := (((Kb.refl (w.heap.size + 1) w11).set 0 (.int .i64 98)).set 1 (.slice none 0 0)).set 2 (.slice A7 4 c7)
      have hres : (((w11.setCell ⟨w.heap.size + 1, 0, none⟩ (.int .i64 98)).setCell ⟨w.heap.size + 1, 1, none⟩ (.slice none 0 0)).setCell ⟨w.heap.size + 1, 2, none⟩ (.slice A7 4 c7)).heap[w.heap.size + 1]? = some (.cells #[.int .i64 98, .slice none 0 0, .slice A7 4 c7] 53 (0, 0)) := by rw [heap_set_row (heap_set_row (heap_set_row HXB_6.out))]; rfl
      exact bodyPost_ret (results_cell1 rfl _ _ (w.heap.size + 1) 53 _ (0, 0) _ rfl hres Tryd.underlying53 rfl (by kernel_rfl)) rfl ⟨_, _, _, rfl, ((HO_7.out.set (by omega) _).set (by omega) _).set (by omega) _, HB_6.out.trans (hkb.below (B := w.heap.size) (by omega) (by omega))⟩

end Go.Proofs.YtkjcafhaenkpbaaDoor
