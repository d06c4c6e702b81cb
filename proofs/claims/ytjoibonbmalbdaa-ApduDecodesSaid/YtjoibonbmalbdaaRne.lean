/-
  The walk of the reference's Encode.
-/
import Derived.Test.YtjoibonbmalbdaaRsp
import Derived.Deep.RegionHeld3
namespace Go.Proofs.Ytjoibonbmalbdaa
set_option linter.unusedVariables false
set_option linter.unusedSimpArgs false
open Go.RowKit

/-- What a slice of bytes reads in a later world, for an append. -/
theorem sl_reads {w W : World} {A : Option Addr} {c : Nat} {l : List UInt8} (h : SL w w.heap.size (.slice A l.length c) l) (hb : Below w.heap.size w W) : 0 < l.length → ∃ b o, A = some ⟨b, o, none⟩ ∧ ∀ k, k < l.length → W.cell? ⟨b, o + k, none⟩ = some (.int .u8 ((l.getD k 0).toNat : Int)) := by
  intro hp
  obtain ⟨A', c', e, _, _, h3⟩ := h
  simp only [Value.slice.injEq, true_and] at e
  obtain ⟨rfl, rfl⟩ := e
  obtain ⟨b, o, hA, hbl, hc⟩ := h3 hp
  exact ⟨b, o, hA, fun k hk => (hb.cell (p := ⟨b, o + k, none⟩) hbl).trans (hc k hk)⟩
theorem OB.four (w : World) (x y z t : UInt8) : OB (w.alloc (.cells #[.int .u8 (x.toNat : Int), .int .u8 (y.toNat : Int), .int .u8 (z.toNat : Int), .int .u8 (t.toNat : Int)] 5)) w.heap.size (.slice (some ⟨w.heap.size, 0, none⟩) 4 4) [x, y, z, t] :=
  OB.of_cells (Nat.le_refl _) rfl (by unfold maxLen; omega) (heap_alloc_new w _)
theorem putL_mod (n : Nat) (long : Bool) : putL (n % 256 ^ widN long) (widN long) = putL n (widN long) := by
  cases long
  · simp only [widN, putL, Bool.false_eq_true, if_false, List.cons.injEq, and_true]
    apply UInt8.toNat_inj.1
    simp
  · simp only [widN, putL, if_true, List.cons.injEq, and_true]
    refine ⟨?_, ?_⟩
    · apply UInt8.toNat_inj.1
      simp
      try omega
    · apply UInt8.toNat_inj.1
      simp
      try omega

set_option maxRecDepth 100000 in
set_option maxHeartbeats 3200000 in
theorem renc_Sde (x0 x1 x2 x3 : UInt8) (d : Value) (w : World) (hv : SL w w.heap.size d []) (h0 : chkC ⟨x0.toNat, x1.toNat, x2.toNat, x3.toNat, [], 0, false⟩ = 0) :
    Calls Try.prog 13 #[Cm.val ⟨x0.toNat, x1.toNat, x2.toNat, x3.toNat, [], 0, false⟩ d] w (EncR ⟨x0.toNat, x1.toNat, x2.toNat, x3.toNat, [], 0, false⟩ w) := by
  obtain ⟨_, _, hp3, hp4, hp5, _⟩ := chk_parts h0
  have hL := maxL_le false
  have hD := maxD_le false


  have HC := Lib.hid (fun (A : Option Addr) (k : Nat) (w : World) => rchk_any ⟨x0.toNat, x1.toNat, x2.toNat, x3.toNat, [], 0, false⟩ A 0 k w rfl (by show -9223372036854775808 ≤ (0 : Int) ∧ (0 : Int) ≤ 9223372036854775807; omega))
  have HV : Hid (encV ⟨x0.toNat, x1.toNat, x2.toNat, x3.toNat, [], 0, false⟩ = [x0, x1, x2, x3]) := by
    show _ = _
    rw [encV, if_pos h0, encL]
    have e1 := putL_mod 0 false
    have e2 := putL_mod 0 false
    simp only [widN, Bool.false_eq_true, if_false, if_true] at e1 e2
    simp [markL, lenL, widN]
  have H0 := Lib.hid h0
  have HD := Lib.hid hv
  obtain ⟨A, k, rfl, _, _, _⟩ := hv
  have y0 := x0.toNat_lt
  have y1 := x1.toNat_lt
  have y2 := x2.toNat_lt
  have y3 := x3.toNat_lt
  simp only [Cm.val, List.length_nil] at HC ⊢
  clear hp3 hp4 hp5 hL hD h0
  go_enter Try.func13, Try.ntmps13
  go_wp2_with fail
  refine (HC.out _ _ _).mono ?_
  rintro e w1 ⟨rfl, hb1⟩
  rw [H0.out]
  rw [alloc_size] at hb1
  have c0 := box_cell hb1 0 _ rfl
  have c1 := box_cell hb1 1 _ rfl
  have c2 := box_cell hb1 2 _ rfl
  have c3 := box_cell hb1 3 _ rfl
  have c4 := box_cell hb1 4 _ rfl
  have c5 := box_cell hb1 5 _ rfl
  have c6 := box_cell hb1 6 _ rfl
  have hs1 := hb1.size
  rw [alloc_size] at hs1
  have hw1 : Below w.heap.size w w1 := (alloc_below _ _).trans (hb1.mono (by omega))
  have hlt : w.heap.size < w1.heap.size := by omega
  have HW1 := Lib.hid hw1
  have HC4 := Lib.hid c4
  have HC5 := Lib.hid c5
  have H4 := Lib.hid (OB.four w1 x0 x1 x2 x3)
  have HA4 := Lib.hid (alloc_below w1 (.cells #[.int .u8 (x0.toNat : Int), .int .u8 (x1.toNat : Int), .int .u8 (x2.toNat : Int), .int .u8 (x3.toNat : Int)] 5))
  have HS4 : Hid (w1.heap.size ≤ (w1.alloc (.cells #[.int .u8 (x0.toNat : Int), .int .u8 (x1.toNat : Int), .int .u8 (x2.toNat : Int), .int .u8 (x3.toNat : Int)] 5)).heap.size) := by show _ ≤ _; rw [alloc_size]; omega
  clear hb1 hs1 hw1
  have r4 := ((HA4.out).cell (p := ⟨w.heap.size, 4, none⟩) hlt).trans HC4.out
  have r5 := ((HA4.out).cell (p := ⟨w.heap.size, 5, none⟩) hlt).trans HC5.out
  go_wp2_with fail
  go_ret2
  exact ⟨_, by rw [H0.out]; rfl, by rw [HV.out]; exact (H4.out).sl, HW1.out.trans ((HA4.out).mono HW1.out.size)⟩

set_option maxRecDepth 100000 in
set_option maxHeartbeats 3200000 in
theorem renc_SdE (x0 x1 x2 x3 : UInt8) (le : Nat) (d : Value) (w : World) (hv : SL w w.heap.size d []) (h0 : chkC ⟨x0.toNat, x1.toNat, x2.toNat, x3.toNat, [], le, false⟩ = 0) (hl : 0 < le) :
    Calls Try.prog 13 #[Cm.val ⟨x0.toNat, x1.toNat, x2.toNat, x3.toNat, [], le, false⟩ d] w (EncR ⟨x0.toNat, x1.toNat, x2.toNat, x3.toNat, [], le, false⟩ w) := by
  obtain ⟨_, _, hp3, hp4, hp5, _⟩ := chk_parts h0
  have hL := maxL_le false
  have hD := maxD_le false

  have hl2 : le ≤ 65536 := by have : (le : Int) ≤ 65536 := Int.le_trans hp5 hL; omega
  have HC := Lib.hid (fun (A : Option Addr) (k : Nat) (w : World) => rchk_any ⟨x0.toNat, x1.toNat, x2.toNat, x3.toNat, [], le, false⟩ A 0 k w rfl (by show -9223372036854775808 ≤ (le : Int) ∧ (le : Int) ≤ 9223372036854775807; omega))
  have HV : Hid (encV ⟨x0.toNat, x1.toNat, x2.toNat, x3.toNat, [], le, false⟩ = ([x0, x1, x2, x3] ++ putL le 1)) := by
    show _ = _
    rw [encV, if_pos h0, encL]
    have e1 := putL_mod 0 false
    have e2 := putL_mod le false
    simp only [widN, Bool.false_eq_true, if_false, if_true] at e1 e2
    simp [markL, lenL, widN, e2, show ¬ le = 0 from by omega]
  have H0 := Lib.hid h0
  have HD := Lib.hid hv
  obtain ⟨A, k, rfl, _, _, _⟩ := hv
  have y0 := x0.toNat_lt
  have y1 := x1.toNat_lt
  have y2 := x2.toNat_lt
  have y3 := x3.toNat_lt
  simp only [Cm.val, List.length_nil] at HC ⊢
  clear hp3 hp4 hp5 hL hD h0
  go_enter Try.func13, Try.ntmps13
  go_wp2_with fail
  refine (HC.out _ _ _).mono ?_
  rintro e w1 ⟨rfl, hb1⟩
  rw [H0.out]
  rw [alloc_size] at hb1
  have c0 := box_cell hb1 0 _ rfl
  have c1 := box_cell hb1 1 _ rfl
  have c2 := box_cell hb1 2 _ rfl
  have c3 := box_cell hb1 3 _ rfl
  have c4 := box_cell hb1 4 _ rfl
  have c5 := box_cell hb1 5 _ rfl
  have c6 := box_cell hb1 6 _ rfl
  have hs1 := hb1.size
  rw [alloc_size] at hs1
  have hw1 : Below w.heap.size w w1 := (alloc_below _ _).trans (hb1.mono (by omega))
  have hlt : w.heap.size < w1.heap.size := by omega
  have HW1 := Lib.hid hw1
  have HC4 := Lib.hid c4
  have HC5 := Lib.hid c5
  have H4 := Lib.hid (OB.four w1 x0 x1 x2 x3)
  have HA4 := Lib.hid (alloc_below w1 (.cells #[.int .u8 (x0.toNat : Int), .int .u8 (x1.toNat : Int), .int .u8 (x2.toNat : Int), .int .u8 (x3.toNat : Int)] 5))
  have HS4 : Hid (w1.heap.size ≤ (w1.alloc (.cells #[.int .u8 (x0.toNat : Int), .int .u8 (x1.toNat : Int), .int .u8 (x2.toNat : Int), .int .u8 (x3.toNat : Int)] 5)).heap.size) := by show _ ≤ _; rw [alloc_size]; omega
  clear hb1 hs1 hw1
  have r4 := ((HA4.out).cell (p := ⟨w.heap.size, 4, none⟩) hlt).trans HC4.out
  have r5 := ((HA4.out).cell (p := ⟨w.heap.size, 5, none⟩) hlt).trans HC5.out
  have HN2 := Lib.hid (rnum_any le 1 (w1.alloc (.cells #[.int .u8 (x0.toNat : Int), .int .u8 (x1.toNat : Int), .int .u8 (x2.toNat : Int), .int .u8 (x3.toNat : Int)] 5)) (by omega) (by omega) (by omega))
  go_wp2_with fail
  refine HN2.out.mono ?_
  rintro e w7 ⟨v7, rfl, hv7, hb7⟩
  have HV7 := Lib.hid hv7
  obtain ⟨A7, k7, rfl, _, _, _⟩ := hv7
  go_wp2_with (at_builtin; refine wpList_appS rfl (.tmp 47) (.tmp 51) rfl w7 w1.heap.size _ [x0, x1, x2, x3] (putL le 1) A7 k7 rfl rfl (Below.refl _ _) ((H4.out).later hb7) (sl_reads HV7.out (Below.refl _ _)) (by simp [putL_length]) (Nat.le_trans HS4.out hb7.size) ?_; intro v8 w8 hv8 hb8)
  have HO8 := Lib.hid hv8
  have HA8 := Lib.hid (((HA4.out).trans (hb7.mono HS4.out)).trans hb8)
  clear hv8 hb8 hb7 r5
  go_wp2_with fail
  go_ret2
  exact ⟨_, by rw [H0.out]; rfl, by rw [HV.out]; exact (HO8.out).sl, HW1.out.trans ((HA8.out).mono HW1.out.size)⟩

set_option maxRecDepth 100000 in
set_option maxHeartbeats 3200000 in
theorem renc_SDe (x0 x1 x2 x3 : UInt8) (data : List UInt8) (d : Value) (w : World) (hv : SL w w.heap.size d data) (h0 : chkC ⟨x0.toNat, x1.toNat, x2.toNat, x3.toNat, data, 0, false⟩ = 0) (hd : 0 < data.length) :
    Calls Try.prog 13 #[Cm.val ⟨x0.toNat, x1.toNat, x2.toNat, x3.toNat, data, 0, false⟩ d] w (EncR ⟨x0.toNat, x1.toNat, x2.toNat, x3.toNat, data, 0, false⟩ w) := by
  obtain ⟨_, _, hp3, hp4, hp5, _⟩ := chk_parts h0
  have hL := maxL_le false
  have hD := maxD_le false
  have hd2 : data.length ≤ 65535 := by have : (data.length : Int) ≤ 65535 := Int.le_trans hp3 hD; omega

  have HC := Lib.hid (fun (A : Option Addr) (k : Nat) (w : World) => rchk_any ⟨x0.toNat, x1.toNat, x2.toNat, x3.toNat, data, 0, false⟩ A data.length k w rfl (by show -9223372036854775808 ≤ (0 : Int) ∧ (0 : Int) ≤ 9223372036854775807; omega))
  have HV : Hid (encV ⟨x0.toNat, x1.toNat, x2.toNat, x3.toNat, data, 0, false⟩ = (([x0, x1, x2, x3] ++ putL data.length 1) ++ data)) := by
    show _ = _
    rw [encV, if_pos h0, encL]
    have e1 := putL_mod data.length false
    have e2 := putL_mod 0 false
    simp only [widN, Bool.false_eq_true, if_false, if_true] at e1 e2
    simp [markL, lenL, widN, e1, show ¬ data = [] from by intro e; rw [e] at hd; simp at hd]
  have H0 := Lib.hid h0
  have HD := Lib.hid hv
  obtain ⟨A, k, rfl, _, _, _⟩ := hv
  have y0 := x0.toNat_lt
  have y1 := x1.toNat_lt
  have y2 := x2.toNat_lt
  have y3 := x3.toNat_lt
  simp only [Cm.val, List.length_nil] at HC ⊢
  clear hp3 hp4 hp5 hL hD h0
  go_enter Try.func13, Try.ntmps13
  go_wp2_with fail
  refine (HC.out _ _ _).mono ?_
  rintro e w1 ⟨rfl, hb1⟩
  rw [H0.out]
  rw [alloc_size] at hb1
  have c0 := box_cell hb1 0 _ rfl
  have c1 := box_cell hb1 1 _ rfl
  have c2 := box_cell hb1 2 _ rfl
  have c3 := box_cell hb1 3 _ rfl
  have c4 := box_cell hb1 4 _ rfl
  have c5 := box_cell hb1 5 _ rfl
  have c6 := box_cell hb1 6 _ rfl
  have hs1 := hb1.size
  rw [alloc_size] at hs1
  have hw1 : Below w.heap.size w w1 := (alloc_below _ _).trans (hb1.mono (by omega))
  have hlt : w.heap.size < w1.heap.size := by omega
  have HW1 := Lib.hid hw1
  have HC4 := Lib.hid c4
  have HC5 := Lib.hid c5
  have H4 := Lib.hid (OB.four w1 x0 x1 x2 x3)
  have HA4 := Lib.hid (alloc_below w1 (.cells #[.int .u8 (x0.toNat : Int), .int .u8 (x1.toNat : Int), .int .u8 (x2.toNat : Int), .int .u8 (x3.toNat : Int)] 5))
  have HS4 : Hid (w1.heap.size ≤ (w1.alloc (.cells #[.int .u8 (x0.toNat : Int), .int .u8 (x1.toNat : Int), .int .u8 (x2.toNat : Int), .int .u8 (x3.toNat : Int)] 5)).heap.size) := by show _ ≤ _; rw [alloc_size]; omega
  clear hb1 hs1 hw1
  have HR4 := Lib.hid (((HA4.out).cell (p := ⟨w.heap.size, 4, none⟩) hlt).trans HC4.out)
  have HN1 := Lib.hid (fun (W : World) => rnum_any data.length 1 W (by omega) (by omega) (by omega))
  have HDV := Lib.hid (HD.out.on HW1.out)
  have hlw : w.heap.size < (w1.alloc (.cells #[.int .u8 (x0.toNat : Int), .int .u8 (x1.toNat : Int), .int .u8 (x2.toNat : Int), .int .u8 (x3.toNat : Int)] 5)).heap.size := Nat.lt_of_lt_of_le hlt HS4.out
  have r4 := HR4.out
  go_wp2_with fail
  try clear r4
  go_region_held3 (fun w' => w'.cell? ⟨w.heap.size, 4, none⟩ = some (.slice A data.length k))
    (first
      | (go_keep; done)
      | exact HR4.out
      | exact (hb4.cell (p := ⟨w.heap.size, 4, none⟩) hlw).trans HR4.out
      | exact (hb5.cell (p := ⟨w.heap.size, 4, none⟩) hlt).trans ((hb4.cell (p := ⟨w.heap.size, 4, none⟩) hlw).trans HR4.out)
      | exact (hb6.cell (p := ⟨w.heap.size, 4, none⟩) hlt).trans ((hb5.cell (p := ⟨w.heap.size, 4, none⟩) hlt).trans ((hb4.cell (p := ⟨w.heap.size, 4, none⟩) hlw).trans HR4.out)))
    (first
      | (go_at_call 42; refine (HN1.out _).mono ?_; rintro e w4 ⟨v4, rfl, hv4, hb4'⟩; have hb4 : Below (w1.alloc (.cells #[.int .u8 (x0.toNat : Int), .int .u8 (x1.toNat : Int), .int .u8 (x2.toNat : Int), .int .u8 (x3.toNat : Int)] 5)).heap.size (w1.alloc (.cells #[.int .u8 (x0.toNat : Int), .int .u8 (x1.toNat : Int), .int .u8 (x2.toNat : Int), .int .u8 (x3.toNat : Int)] 5)) w4 := (by first | exact hb4' | exact ((Below.refl _ _).drew).trans hb4'); have HV4 := Lib.hid hv4; obtain ⟨A4, k4, rfl, _, _, _⟩ := hv4)
      | (refine step_appS rfl (.tmp 34) (.tmp 39) rfl w4 w1.heap.size _ [x0, x1, x2, x3] (putL data.length 1) A4 k4 (by rfl) (by rfl) (by first | exact Below.refl _ _ | exact (Below.refl _ _).drew) ((H4.out).later hb4) (sl_reads HV4.out (by first | exact Below.refl _ _ | exact (Below.refl _ _).drew)) (by simp [putL_length]) (Nat.le_trans HS4.out hb4.size) ?_; intro v5 w5 hv5 hb5)
      | (refine step_appS rfl (.tmp 40) (.tmp 42) rfl w5 w1.heap.size _ ([x0, x1, x2, x3] ++ putL data.length 1) data A k (by rfl) (by rfl) (by first | exact Below.refl _ _ | exact (Below.refl _ _).drew) hv5 (by first | exact sl_reads HDV.out (((HA4.out).trans (hb4.mono HS4.out)).trans hb5) | exact sl_reads HDV.out (((HA4.out).trans (hb4.mono HS4.out)).trans hb5).drew) (by simp [putL_length]; omega) (Nat.le_trans HS4.out (Nat.le_trans hb4.size hb5.size)) ?_; intro v6 w6 hv6 hb6))
  have HO6 := Lib.hid hv6
  have HA6 := Lib.hid (((((HA4.out).trans (hb4.mono HS4.out))).trans hb5).trans hb6)
  have HS6 : Hid (w1.heap.size ≤ w6.heap.size) := Nat.le_trans (Nat.le_trans HS4.out (Nat.le_trans hb4.size hb5.size)) hb6.size
  obtain ⟨g6, z6, rfl, _, _⟩ := World.ownsRow.form hv6 (by simp)
  clear hv6 hb6 hv5 hb5 hb4 hlw
  generalize hL6 : List.length (([x0, x1, x2, x3] ++ putL data.length 1) ++ data) = L6 at *
  have HL6 := Lib.hid hL6
  clear hL6
  have r5 := ((HA6.out).cell (p := ⟨w.heap.size, 5, none⟩) hlt).trans HC5.out
  go_wp2_with fail
  go_ret2
  exact ⟨_, by rw [H0.out]; rfl, by rw [HV.out]; exact (HO6.out).sl, HW1.out.trans ((HA6.out).mono HW1.out.size)⟩

set_option maxRecDepth 100000 in
set_option maxHeartbeats 3200000 in
theorem renc_SDE (x0 x1 x2 x3 : UInt8) (data : List UInt8) (le : Nat) (d : Value) (w : World) (hv : SL w w.heap.size d data) (h0 : chkC ⟨x0.toNat, x1.toNat, x2.toNat, x3.toNat, data, le, false⟩ = 0) (hd : 0 < data.length) (hl : 0 < le) :
    Calls Try.prog 13 #[Cm.val ⟨x0.toNat, x1.toNat, x2.toNat, x3.toNat, data, le, false⟩ d] w (EncR ⟨x0.toNat, x1.toNat, x2.toNat, x3.toNat, data, le, false⟩ w) := by
  obtain ⟨_, _, hp3, hp4, hp5, _⟩ := chk_parts h0
  have hL := maxL_le false
  have hD := maxD_le false
  have hd2 : data.length ≤ 65535 := by have : (data.length : Int) ≤ 65535 := Int.le_trans hp3 hD; omega
  have hl2 : le ≤ 65536 := by have : (le : Int) ≤ 65536 := Int.le_trans hp5 hL; omega
  have HC := Lib.hid (fun (A : Option Addr) (k : Nat) (w : World) => rchk_any ⟨x0.toNat, x1.toNat, x2.toNat, x3.toNat, data, le, false⟩ A data.length k w rfl (by show -9223372036854775808 ≤ (le : Int) ∧ (le : Int) ≤ 9223372036854775807; omega))
  have HV : Hid (encV ⟨x0.toNat, x1.toNat, x2.toNat, x3.toNat, data, le, false⟩ = ((([x0, x1, x2, x3] ++ putL data.length 1) ++ data) ++ putL le 1)) := by
    show _ = _
    rw [encV, if_pos h0, encL]
    have e1 := putL_mod data.length false
    have e2 := putL_mod le false
    simp only [widN, Bool.false_eq_true, if_false, if_true] at e1 e2
    simp [markL, lenL, widN, e1, e2, show ¬ data = [] from by intro e; rw [e] at hd; simp at hd, show ¬ le = 0 from by omega]
  have H0 := Lib.hid h0
  have HD := Lib.hid hv
  obtain ⟨A, k, rfl, _, _, _⟩ := hv
  have y0 := x0.toNat_lt
  have y1 := x1.toNat_lt
  have y2 := x2.toNat_lt
  have y3 := x3.toNat_lt
  simp only [Cm.val, List.length_nil] at HC ⊢
  clear hp3 hp4 hp5 hL hD h0
  go_enter Try.func13, Try.ntmps13
  go_wp2_with fail
  refine (HC.out _ _ _).mono ?_
  rintro e w1 ⟨rfl, hb1⟩
  rw [H0.out]
  rw [alloc_size] at hb1
  have c0 := box_cell hb1 0 _ rfl
  have c1 := box_cell hb1 1 _ rfl
  have c2 := box_cell hb1 2 _ rfl
  have c3 := box_cell hb1 3 _ rfl
  have c4 := box_cell hb1 4 _ rfl
  have c5 := box_cell hb1 5 _ rfl
  have c6 := box_cell hb1 6 _ rfl
  have hs1 := hb1.size
  rw [alloc_size] at hs1
  have hw1 : Below w.heap.size w w1 := (alloc_below _ _).trans (hb1.mono (by omega))
  have hlt : w.heap.size < w1.heap.size := by omega
  have HW1 := Lib.hid hw1
  have HC4 := Lib.hid c4
  have HC5 := Lib.hid c5
  have H4 := Lib.hid (OB.four w1 x0 x1 x2 x3)
  have HA4 := Lib.hid (alloc_below w1 (.cells #[.int .u8 (x0.toNat : Int), .int .u8 (x1.toNat : Int), .int .u8 (x2.toNat : Int), .int .u8 (x3.toNat : Int)] 5))
  have HS4 : Hid (w1.heap.size ≤ (w1.alloc (.cells #[.int .u8 (x0.toNat : Int), .int .u8 (x1.toNat : Int), .int .u8 (x2.toNat : Int), .int .u8 (x3.toNat : Int)] 5)).heap.size) := by show _ ≤ _; rw [alloc_size]; omega
  clear hb1 hs1 hw1
  have HR4 := Lib.hid (((HA4.out).cell (p := ⟨w.heap.size, 4, none⟩) hlt).trans HC4.out)
  have HN1 := Lib.hid (fun (W : World) => rnum_any data.length 1 W (by omega) (by omega) (by omega))
  have HDV := Lib.hid (HD.out.on HW1.out)
  have hlw : w.heap.size < (w1.alloc (.cells #[.int .u8 (x0.toNat : Int), .int .u8 (x1.toNat : Int), .int .u8 (x2.toNat : Int), .int .u8 (x3.toNat : Int)] 5)).heap.size := Nat.lt_of_lt_of_le hlt HS4.out
  have r4 := HR4.out
  go_wp2_with fail
  try clear r4
  go_region_held3 (fun w' => w'.cell? ⟨w.heap.size, 4, none⟩ = some (.slice A data.length k))
    (first
      | (go_keep; done)
      | exact HR4.out
      | exact (hb4.cell (p := ⟨w.heap.size, 4, none⟩) hlw).trans HR4.out
      | exact (hb5.cell (p := ⟨w.heap.size, 4, none⟩) hlt).trans ((hb4.cell (p := ⟨w.heap.size, 4, none⟩) hlw).trans HR4.out)
      | exact (hb6.cell (p := ⟨w.heap.size, 4, none⟩) hlt).trans ((hb5.cell (p := ⟨w.heap.size, 4, none⟩) hlt).trans ((hb4.cell (p := ⟨w.heap.size, 4, none⟩) hlw).trans HR4.out)))
    (first
      | (go_at_call 42; refine (HN1.out _).mono ?_; rintro e w4 ⟨v4, rfl, hv4, hb4'⟩; have hb4 : Below (w1.alloc (.cells #[.int .u8 (x0.toNat : Int), .int .u8 (x1.toNat : Int), .int .u8 (x2.toNat : Int), .int .u8 (x3.toNat : Int)] 5)).heap.size (w1.alloc (.cells #[.int .u8 (x0.toNat : Int), .int .u8 (x1.toNat : Int), .int .u8 (x2.toNat : Int), .int .u8 (x3.toNat : Int)] 5)) w4 := (by first | exact hb4' | exact ((Below.refl _ _).drew).trans hb4'); have HV4 := Lib.hid hv4; obtain ⟨A4, k4, rfl, _, _, _⟩ := hv4)
      | (refine step_appS rfl (.tmp 34) (.tmp 39) rfl w4 w1.heap.size _ [x0, x1, x2, x3] (putL data.length 1) A4 k4 (by rfl) (by rfl) (by first | exact Below.refl _ _ | exact (Below.refl _ _).drew) ((H4.out).later hb4) (sl_reads HV4.out (by first | exact Below.refl _ _ | exact (Below.refl _ _).drew)) (by simp [putL_length]) (Nat.le_trans HS4.out hb4.size) ?_; intro v5 w5 hv5 hb5)
      | (refine step_appS rfl (.tmp 40) (.tmp 42) rfl w5 w1.heap.size _ ([x0, x1, x2, x3] ++ putL data.length 1) data A k (by rfl) (by rfl) (by first | exact Below.refl _ _ | exact (Below.refl _ _).drew) hv5 (by first | exact sl_reads HDV.out (((HA4.out).trans (hb4.mono HS4.out)).trans hb5) | exact sl_reads HDV.out (((HA4.out).trans (hb4.mono HS4.out)).trans hb5).drew) (by simp [putL_length]; omega) (Nat.le_trans HS4.out (Nat.le_trans hb4.size hb5.size)) ?_; intro v6 w6 hv6 hb6))
  have HO6 := Lib.hid hv6
  have HA6 := Lib.hid (((((HA4.out).trans (hb4.mono HS4.out))).trans hb5).trans hb6)
  have HS6 : Hid (w1.heap.size ≤ w6.heap.size) := Nat.le_trans (Nat.le_trans HS4.out (Nat.le_trans hb4.size hb5.size)) hb6.size
  obtain ⟨g6, z6, rfl, _, _⟩ := World.ownsRow.form hv6 (by simp)
  clear hv6 hb6 hv5 hb5 hb4 hlw
  generalize hL6 : List.length (([x0, x1, x2, x3] ++ putL data.length 1) ++ data) = L6 at *
  have HL6 := Lib.hid hL6
  clear hL6
  have r5 := ((HA6.out).cell (p := ⟨w.heap.size, 5, none⟩) hlt).trans HC5.out
  have HN2 := Lib.hid (rnum_any le 1 w6 (by omega) (by omega) (by omega))
  go_wp2_with fail
  refine HN2.out.mono ?_
  rintro e w7 ⟨v7, rfl, hv7, hb7⟩
  have HV7 := Lib.hid hv7
  obtain ⟨A7, k7, rfl, _, _, _⟩ := hv7
  go_wp2_with (at_builtin; refine wpList_appS rfl (.tmp 47) (.tmp 51) rfl w7 w1.heap.size _ (([x0, x1, x2, x3] ++ putL data.length 1) ++ data) (putL le 1) A7 k7 rfl rfl (Below.refl _ _) ((HO6.out).later hb7) (sl_reads HV7.out (Below.refl _ _)) (by simp [putL_length]; omega) (Nat.le_trans HS6.out hb7.size) ?_; intro v8 w8 hv8 hb8)
  have HO8 := Lib.hid hv8
  have HA8 := Lib.hid (((HA6.out).trans (hb7.mono HS6.out)).trans hb8)
  clear hv8 hb8 hb7 r5
  go_wp2_with fail
  go_ret2
  exact ⟨_, by rw [H0.out]; rfl, by rw [HV.out]; exact (HO8.out).sl, HW1.out.trans ((HA8.out).mono HW1.out.size)⟩

set_option maxRecDepth 100000 in
set_option maxHeartbeats 3200000 in
theorem renc_Lde (x0 x1 x2 x3 : UInt8) (d : Value) (w : World) (hv : SL w w.heap.size d []) (h0 : chkC ⟨x0.toNat, x1.toNat, x2.toNat, x3.toNat, [], 0, true⟩ = 0) :
    Calls Try.prog 13 #[Cm.val ⟨x0.toNat, x1.toNat, x2.toNat, x3.toNat, [], 0, true⟩ d] w (EncR ⟨x0.toNat, x1.toNat, x2.toNat, x3.toNat, [], 0, true⟩ w) := by
  obtain ⟨_, _, hp3, hp4, hp5, _⟩ := chk_parts h0
  have hL := maxL_le true
  have hD := maxD_le true


  have HC := Lib.hid (fun (A : Option Addr) (k : Nat) (w : World) => rchk_any ⟨x0.toNat, x1.toNat, x2.toNat, x3.toNat, [], 0, true⟩ A 0 k w rfl (by show -9223372036854775808 ≤ (0 : Int) ∧ (0 : Int) ≤ 9223372036854775807; omega))
  have HV : Hid (encV ⟨x0.toNat, x1.toNat, x2.toNat, x3.toNat, [], 0, true⟩ = ([x0, x1, x2, x3] ++ [0])) := by
    show _ = _
    rw [encV, if_pos h0, encL]
    have e1 := putL_mod 0 true
    have e2 := putL_mod 0 true
    simp only [widN, Bool.false_eq_true, if_false, if_true] at e1 e2
    simp [markL, lenL, widN]
  have H0 := Lib.hid h0
  have HD := Lib.hid hv
  obtain ⟨A, k, rfl, _, _, _⟩ := hv
  have y0 := x0.toNat_lt
  have y1 := x1.toNat_lt
  have y2 := x2.toNat_lt
  have y3 := x3.toNat_lt
  simp only [Cm.val, List.length_nil] at HC ⊢
  clear hp3 hp4 hp5 hL hD h0
  go_enter Try.func13, Try.ntmps13
  go_wp2_with fail
  refine (HC.out _ _ _).mono ?_
  rintro e w1 ⟨rfl, hb1⟩
  rw [H0.out]
  rw [alloc_size] at hb1
  have c0 := box_cell hb1 0 _ rfl
  have c1 := box_cell hb1 1 _ rfl
  have c2 := box_cell hb1 2 _ rfl
  have c3 := box_cell hb1 3 _ rfl
  have c4 := box_cell hb1 4 _ rfl
  have c5 := box_cell hb1 5 _ rfl
  have c6 := box_cell hb1 6 _ rfl
  have hs1 := hb1.size
  rw [alloc_size] at hs1
  have hw1 : Below w.heap.size w w1 := (alloc_below _ _).trans (hb1.mono (by omega))
  have hlt : w.heap.size < w1.heap.size := by omega
  have HW1 := Lib.hid hw1
  have HC4 := Lib.hid c4
  have HC5 := Lib.hid c5
  have H4 := Lib.hid (OB.four w1 x0 x1 x2 x3)
  have HA4 := Lib.hid (alloc_below w1 (.cells #[.int .u8 (x0.toNat : Int), .int .u8 (x1.toNat : Int), .int .u8 (x2.toNat : Int), .int .u8 (x3.toNat : Int)] 5))
  have HS4 : Hid (w1.heap.size ≤ (w1.alloc (.cells #[.int .u8 (x0.toNat : Int), .int .u8 (x1.toNat : Int), .int .u8 (x2.toNat : Int), .int .u8 (x3.toNat : Int)] 5)).heap.size) := by show _ ≤ _; rw [alloc_size]; omega
  clear hb1 hs1 hw1
  go_wp2_with (at_builtin; refine wpList_appS rfl (.tmp 27) (.tmp 28) rfl (w1.alloc (.cells #[.int .u8 (x0.toNat : Int), .int .u8 (x1.toNat : Int), .int .u8 (x2.toNat : Int), .int .u8 (x3.toNat : Int)] 5)) w1.heap.size _ [x0, x1, x2, x3] [0] (some ⟨w1.heap.size + 1, 0, none⟩) 1 rfl rfl (alloc_below _ _) H4.out (fun _ => ⟨w1.heap.size + 1, 0, rfl, fun k' hk' => by obtain rfl : k' = 0 := (by simp at hk'; omega); simp⟩) (by simp) HS4.out ?_; intro v3 w3 hv3 hb3; have HO3 := Lib.hid hv3; have HA3 := Lib.hid (HA4.out.trans hb3); have HS3 := Lib.hid (Nat.le_trans HS4.out hb3.size); obtain ⟨g3, z3, rfl, _, _⟩ := World.ownsRow.form hv3 (by simp); have r4 := (HA3.out.cell (p := ⟨w.heap.size, 4, none⟩) hlt).trans HC4.out; have r5 := (HA3.out.cell (p := ⟨w.heap.size, 5, none⟩) hlt).trans HC5.out; clear hv3 hb3)
  have r4 := ((HA3.out).cell (p := ⟨w.heap.size, 4, none⟩) hlt).trans HC4.out
  have r5 := ((HA3.out).cell (p := ⟨w.heap.size, 5, none⟩) hlt).trans HC5.out
  go_wp2_with fail
  go_ret2
  exact ⟨_, by rw [H0.out]; rfl, by rw [HV.out]; exact (HO3.out).sl, HW1.out.trans ((HA3.out).mono HW1.out.size)⟩

set_option maxRecDepth 100000 in
set_option maxHeartbeats 3200000 in
theorem renc_LdE (x0 x1 x2 x3 : UInt8) (le : Nat) (d : Value) (w : World) (hv : SL w w.heap.size d []) (h0 : chkC ⟨x0.toNat, x1.toNat, x2.toNat, x3.toNat, [], le, true⟩ = 0) (hl : 0 < le) :
    Calls Try.prog 13 #[Cm.val ⟨x0.toNat, x1.toNat, x2.toNat, x3.toNat, [], le, true⟩ d] w (EncR ⟨x0.toNat, x1.toNat, x2.toNat, x3.toNat, [], le, true⟩ w) := by
  obtain ⟨_, _, hp3, hp4, hp5, _⟩ := chk_parts h0
  have hL := maxL_le true
  have hD := maxD_le true

  have hl2 : le ≤ 65536 := by have : (le : Int) ≤ 65536 := Int.le_trans hp5 hL; omega
  have HC := Lib.hid (fun (A : Option Addr) (k : Nat) (w : World) => rchk_any ⟨x0.toNat, x1.toNat, x2.toNat, x3.toNat, [], le, true⟩ A 0 k w rfl (by show -9223372036854775808 ≤ (le : Int) ∧ (le : Int) ≤ 9223372036854775807; omega))
  have HV : Hid (encV ⟨x0.toNat, x1.toNat, x2.toNat, x3.toNat, [], le, true⟩ = (([x0, x1, x2, x3] ++ [0]) ++ putL le 2)) := by
    show _ = _
    rw [encV, if_pos h0, encL]
    have e1 := putL_mod 0 true
    have e2 := putL_mod le true
    simp only [widN, Bool.false_eq_true, if_false, if_true] at e1 e2
    simp [markL, lenL, widN, e2, show ¬ le = 0 from by omega]
  have H0 := Lib.hid h0
  have HD := Lib.hid hv
  obtain ⟨A, k, rfl, _, _, _⟩ := hv
  have y0 := x0.toNat_lt
  have y1 := x1.toNat_lt
  have y2 := x2.toNat_lt
  have y3 := x3.toNat_lt
  simp only [Cm.val, List.length_nil] at HC ⊢
  clear hp3 hp4 hp5 hL hD h0
  go_enter Try.func13, Try.ntmps13
  go_wp2_with fail
  refine (HC.out _ _ _).mono ?_
  rintro e w1 ⟨rfl, hb1⟩
  rw [H0.out]
  rw [alloc_size] at hb1
  have c0 := box_cell hb1 0 _ rfl
  have c1 := box_cell hb1 1 _ rfl
  have c2 := box_cell hb1 2 _ rfl
  have c3 := box_cell hb1 3 _ rfl
  have c4 := box_cell hb1 4 _ rfl
  have c5 := box_cell hb1 5 _ rfl
  have c6 := box_cell hb1 6 _ rfl
  have hs1 := hb1.size
  rw [alloc_size] at hs1
  have hw1 : Below w.heap.size w w1 := (alloc_below _ _).trans (hb1.mono (by omega))
  have hlt : w.heap.size < w1.heap.size := by omega
  have HW1 := Lib.hid hw1
  have HC4 := Lib.hid c4
  have HC5 := Lib.hid c5
  have H4 := Lib.hid (OB.four w1 x0 x1 x2 x3)
  have HA4 := Lib.hid (alloc_below w1 (.cells #[.int .u8 (x0.toNat : Int), .int .u8 (x1.toNat : Int), .int .u8 (x2.toNat : Int), .int .u8 (x3.toNat : Int)] 5))
  have HS4 : Hid (w1.heap.size ≤ (w1.alloc (.cells #[.int .u8 (x0.toNat : Int), .int .u8 (x1.toNat : Int), .int .u8 (x2.toNat : Int), .int .u8 (x3.toNat : Int)] 5)).heap.size) := by show _ ≤ _; rw [alloc_size]; omega
  clear hb1 hs1 hw1
  go_wp2_with (at_builtin; refine wpList_appS rfl (.tmp 27) (.tmp 28) rfl (w1.alloc (.cells #[.int .u8 (x0.toNat : Int), .int .u8 (x1.toNat : Int), .int .u8 (x2.toNat : Int), .int .u8 (x3.toNat : Int)] 5)) w1.heap.size _ [x0, x1, x2, x3] [0] (some ⟨w1.heap.size + 1, 0, none⟩) 1 rfl rfl (alloc_below _ _) H4.out (fun _ => ⟨w1.heap.size + 1, 0, rfl, fun k' hk' => by obtain rfl : k' = 0 := (by simp at hk'; omega); simp⟩) (by simp) HS4.out ?_; intro v3 w3 hv3 hb3; have HO3 := Lib.hid hv3; have HA3 := Lib.hid (HA4.out.trans hb3); have HS3 := Lib.hid (Nat.le_trans HS4.out hb3.size); obtain ⟨g3, z3, rfl, _, _⟩ := World.ownsRow.form hv3 (by simp); have r4 := (HA3.out.cell (p := ⟨w.heap.size, 4, none⟩) hlt).trans HC4.out; have r5 := (HA3.out.cell (p := ⟨w.heap.size, 5, none⟩) hlt).trans HC5.out; clear hv3 hb3)
  have r4 := ((HA3.out).cell (p := ⟨w.heap.size, 4, none⟩) hlt).trans HC4.out
  have r5 := ((HA3.out).cell (p := ⟨w.heap.size, 5, none⟩) hlt).trans HC5.out
  have HN2 := Lib.hid (rnum_any le 2 w3 (by omega) (by omega) (by omega))
  go_wp2_with fail
  refine HN2.out.mono ?_
  rintro e w7 ⟨v7, rfl, hv7, hb7⟩
  have HV7 := Lib.hid hv7
  obtain ⟨A7, k7, rfl, _, _, _⟩ := hv7
  go_wp2_with (at_builtin; refine wpList_appS rfl (.tmp 47) (.tmp 51) rfl w7 w1.heap.size _ ([x0, x1, x2, x3] ++ [0]) (putL le 2) A7 k7 rfl rfl (Below.refl _ _) ((HO3.out).later hb7) (sl_reads HV7.out (Below.refl _ _)) (by simp [putL_length]) (Nat.le_trans HS3.out hb7.size) ?_; intro v8 w8 hv8 hb8)
  have HO8 := Lib.hid hv8
  have HA8 := Lib.hid (((HA3.out).trans (hb7.mono HS3.out)).trans hb8)
  clear hv8 hb8 hb7 r5
  go_wp2_with fail
  go_ret2
  exact ⟨_, by rw [H0.out]; rfl, by rw [HV.out]; exact (HO8.out).sl, HW1.out.trans ((HA8.out).mono HW1.out.size)⟩

set_option maxRecDepth 100000 in
set_option maxHeartbeats 3200000 in
theorem renc_LDe (x0 x1 x2 x3 : UInt8) (data : List UInt8) (d : Value) (w : World) (hv : SL w w.heap.size d data) (h0 : chkC ⟨x0.toNat, x1.toNat, x2.toNat, x3.toNat, data, 0, true⟩ = 0) (hd : 0 < data.length) :
    Calls Try.prog 13 #[Cm.val ⟨x0.toNat, x1.toNat, x2.toNat, x3.toNat, data, 0, true⟩ d] w (EncR ⟨x0.toNat, x1.toNat, x2.toNat, x3.toNat, data, 0, true⟩ w) := by
  obtain ⟨_, _, hp3, hp4, hp5, _⟩ := chk_parts h0
  have hL := maxL_le true
  have hD := maxD_le true
  have hd2 : data.length ≤ 65535 := by have : (data.length : Int) ≤ 65535 := Int.le_trans hp3 hD; omega

  have HC := Lib.hid (fun (A : Option Addr) (k : Nat) (w : World) => rchk_any ⟨x0.toNat, x1.toNat, x2.toNat, x3.toNat, data, 0, true⟩ A data.length k w rfl (by show -9223372036854775808 ≤ (0 : Int) ∧ (0 : Int) ≤ 9223372036854775807; omega))
  have HV : Hid (encV ⟨x0.toNat, x1.toNat, x2.toNat, x3.toNat, data, 0, true⟩ = ((([x0, x1, x2, x3] ++ [0]) ++ putL data.length 2) ++ data)) := by
    show _ = _
    rw [encV, if_pos h0, encL]
    have e1 := putL_mod data.length true
    have e2 := putL_mod 0 true
    simp only [widN, Bool.false_eq_true, if_false, if_true] at e1 e2
    simp [markL, lenL, widN, e1, show ¬ data = [] from by intro e; rw [e] at hd; simp at hd]
  have H0 := Lib.hid h0
  have HD := Lib.hid hv
  obtain ⟨A, k, rfl, _, _, _⟩ := hv
  have y0 := x0.toNat_lt
  have y1 := x1.toNat_lt
  have y2 := x2.toNat_lt
  have y3 := x3.toNat_lt
  simp only [Cm.val, List.length_nil] at HC ⊢
  clear hp3 hp4 hp5 hL hD h0
  go_enter Try.func13, Try.ntmps13
  go_wp2_with fail
  refine (HC.out _ _ _).mono ?_
  rintro e w1 ⟨rfl, hb1⟩
  rw [H0.out]
  rw [alloc_size] at hb1
  have c0 := box_cell hb1 0 _ rfl
  have c1 := box_cell hb1 1 _ rfl
  have c2 := box_cell hb1 2 _ rfl
  have c3 := box_cell hb1 3 _ rfl
  have c4 := box_cell hb1 4 _ rfl
  have c5 := box_cell hb1 5 _ rfl
  have c6 := box_cell hb1 6 _ rfl
  have hs1 := hb1.size
  rw [alloc_size] at hs1
  have hw1 : Below w.heap.size w w1 := (alloc_below _ _).trans (hb1.mono (by omega))
  have hlt : w.heap.size < w1.heap.size := by omega
  have HW1 := Lib.hid hw1
  have HC4 := Lib.hid c4
  have HC5 := Lib.hid c5
  have H4 := Lib.hid (OB.four w1 x0 x1 x2 x3)
  have HA4 := Lib.hid (alloc_below w1 (.cells #[.int .u8 (x0.toNat : Int), .int .u8 (x1.toNat : Int), .int .u8 (x2.toNat : Int), .int .u8 (x3.toNat : Int)] 5))
  have HS4 : Hid (w1.heap.size ≤ (w1.alloc (.cells #[.int .u8 (x0.toNat : Int), .int .u8 (x1.toNat : Int), .int .u8 (x2.toNat : Int), .int .u8 (x3.toNat : Int)] 5)).heap.size) := by show _ ≤ _; rw [alloc_size]; omega
  clear hb1 hs1 hw1
  go_wp2_with (at_builtin; refine wpList_appS rfl (.tmp 27) (.tmp 28) rfl (w1.alloc (.cells #[.int .u8 (x0.toNat : Int), .int .u8 (x1.toNat : Int), .int .u8 (x2.toNat : Int), .int .u8 (x3.toNat : Int)] 5)) w1.heap.size _ [x0, x1, x2, x3] [0] (some ⟨w1.heap.size + 1, 0, none⟩) 1 rfl rfl (alloc_below _ _) H4.out (fun _ => ⟨w1.heap.size + 1, 0, rfl, fun k' hk' => by obtain rfl : k' = 0 := (by simp at hk'; omega); simp⟩) (by simp) HS4.out ?_; intro v3 w3 hv3 hb3; have HO3 := Lib.hid hv3; have HA3 := Lib.hid (HA4.out.trans hb3); have HS3 := Lib.hid (Nat.le_trans HS4.out hb3.size); obtain ⟨g3, z3, rfl, _, _⟩ := World.ownsRow.form hv3 (by simp); have r4 := (HA3.out.cell (p := ⟨w.heap.size, 4, none⟩) hlt).trans HC4.out; have r5 := (HA3.out.cell (p := ⟨w.heap.size, 5, none⟩) hlt).trans HC5.out; clear hv3 hb3)
  have HR4 := Lib.hid (((HA3.out).cell (p := ⟨w.heap.size, 4, none⟩) hlt).trans HC4.out)
  have HN1 := Lib.hid (fun (W : World) => rnum_any data.length 2 W (by omega) (by omega) (by omega))
  have HDV := Lib.hid (HD.out.on HW1.out)
  have hlw : w.heap.size < w3.heap.size := Nat.lt_of_lt_of_le hlt HS3.out
  have r4 := HR4.out
  go_wp2_with fail
  try clear r4
  go_region_held3 (fun w' => w'.cell? ⟨w.heap.size, 4, none⟩ = some (.slice A data.length k))
    (first
      | (go_keep; done)
      | exact HR4.out
      | exact (hb4.cell (p := ⟨w.heap.size, 4, none⟩) hlw).trans HR4.out
      | exact (hb5.cell (p := ⟨w.heap.size, 4, none⟩) hlt).trans ((hb4.cell (p := ⟨w.heap.size, 4, none⟩) hlw).trans HR4.out)
      | exact (hb6.cell (p := ⟨w.heap.size, 4, none⟩) hlt).trans ((hb5.cell (p := ⟨w.heap.size, 4, none⟩) hlt).trans ((hb4.cell (p := ⟨w.heap.size, 4, none⟩) hlw).trans HR4.out)))
    (first
      | (go_at_call 42; refine (HN1.out _).mono ?_; rintro e w4 ⟨v4, rfl, hv4, hb4'⟩; have hb4 : Below w3.heap.size w3 w4 := (by first | exact hb4' | exact ((Below.refl _ _).drew).trans hb4'); have HV4 := Lib.hid hv4; obtain ⟨A4, k4, rfl, _, _, _⟩ := hv4)
      | (refine step_appS rfl (.tmp 34) (.tmp 39) rfl w4 w1.heap.size _ ([x0, x1, x2, x3] ++ [0]) (putL data.length 2) A4 k4 (by rfl) (by rfl) (by first | exact Below.refl _ _ | exact (Below.refl _ _).drew) ((HO3.out).later hb4) (sl_reads HV4.out (by first | exact Below.refl _ _ | exact (Below.refl _ _).drew)) (by simp [putL_length]) (Nat.le_trans HS3.out hb4.size) ?_; intro v5 w5 hv5 hb5)
      | (refine step_appS rfl (.tmp 40) (.tmp 42) rfl w5 w1.heap.size _ (([x0, x1, x2, x3] ++ [0]) ++ putL data.length 2) data A k (by rfl) (by rfl) (by first | exact Below.refl _ _ | exact (Below.refl _ _).drew) hv5 (by first | exact sl_reads HDV.out (((HA3.out).trans (hb4.mono HS3.out)).trans hb5) | exact sl_reads HDV.out (((HA3.out).trans (hb4.mono HS3.out)).trans hb5).drew) (by simp [putL_length]; omega) (Nat.le_trans HS3.out (Nat.le_trans hb4.size hb5.size)) ?_; intro v6 w6 hv6 hb6))
  have HO6 := Lib.hid hv6
  have HA6 := Lib.hid (((((HA3.out).trans (hb4.mono HS3.out))).trans hb5).trans hb6)
  have HS6 : Hid (w1.heap.size ≤ w6.heap.size) := Nat.le_trans (Nat.le_trans HS3.out (Nat.le_trans hb4.size hb5.size)) hb6.size
  obtain ⟨g6, z6, rfl, _, _⟩ := World.ownsRow.form hv6 (by simp)
  clear hv6 hb6 hv5 hb5 hb4 hlw
  generalize hL6 : List.length ((([x0, x1, x2, x3] ++ [0]) ++ putL data.length 2) ++ data) = L6 at *
  have HL6 := Lib.hid hL6
  clear hL6
  have r5 := ((HA6.out).cell (p := ⟨w.heap.size, 5, none⟩) hlt).trans HC5.out
  go_wp2_with fail
  go_ret2
  exact ⟨_, by rw [H0.out]; rfl, by rw [HV.out]; exact (HO6.out).sl, HW1.out.trans ((HA6.out).mono HW1.out.size)⟩

set_option maxRecDepth 100000 in
set_option maxHeartbeats 3200000 in
theorem renc_LDE (x0 x1 x2 x3 : UInt8) (data : List UInt8) (le : Nat) (d : Value) (w : World) (hv : SL w w.heap.size d data) (h0 : chkC ⟨x0.toNat, x1.toNat, x2.toNat, x3.toNat, data, le, true⟩ = 0) (hd : 0 < data.length) (hl : 0 < le) :
    Calls Try.prog 13 #[Cm.val ⟨x0.toNat, x1.toNat, x2.toNat, x3.toNat, data, le, true⟩ d] w (EncR ⟨x0.toNat, x1.toNat, x2.toNat, x3.toNat, data, le, true⟩ w) := by
  obtain ⟨_, _, hp3, hp4, hp5, _⟩ := chk_parts h0
  have hL := maxL_le true
  have hD := maxD_le true
  have hd2 : data.length ≤ 65535 := by have : (data.length : Int) ≤ 65535 := Int.le_trans hp3 hD; omega
  have hl2 : le ≤ 65536 := by have : (le : Int) ≤ 65536 := Int.le_trans hp5 hL; omega
  have HC := Lib.hid (fun (A : Option Addr) (k : Nat) (w : World) => rchk_any ⟨x0.toNat, x1.toNat, x2.toNat, x3.toNat, data, le, true⟩ A data.length k w rfl (by show -9223372036854775808 ≤ (le : Int) ∧ (le : Int) ≤ 9223372036854775807; omega))
  have HV : Hid (encV ⟨x0.toNat, x1.toNat, x2.toNat, x3.toNat, data, le, true⟩ = (((([x0, x1, x2, x3] ++ [0]) ++ putL data.length 2) ++ data) ++ putL le 2)) := by
    show _ = _
    rw [encV, if_pos h0, encL]
    have e1 := putL_mod data.length true
    have e2 := putL_mod le true
    simp only [widN, Bool.false_eq_true, if_false, if_true] at e1 e2
    simp [markL, lenL, widN, e1, e2, show ¬ data = [] from by intro e; rw [e] at hd; simp at hd, show ¬ le = 0 from by omega]
  have H0 := Lib.hid h0
  have HD := Lib.hid hv
  obtain ⟨A, k, rfl, _, _, _⟩ := hv
  have y0 := x0.toNat_lt
  have y1 := x1.toNat_lt
  have y2 := x2.toNat_lt
  have y3 := x3.toNat_lt
  simp only [Cm.val, List.length_nil] at HC ⊢
  clear hp3 hp4 hp5 hL hD h0
  go_enter Try.func13, Try.ntmps13
  go_wp2_with fail
  refine (HC.out _ _ _).mono ?_
  rintro e w1 ⟨rfl, hb1⟩
  rw [H0.out]
  rw [alloc_size] at hb1
  have c0 := box_cell hb1 0 _ rfl
  have c1 := box_cell hb1 1 _ rfl
  have c2 := box_cell hb1 2 _ rfl
  have c3 := box_cell hb1 3 _ rfl
  have c4 := box_cell hb1 4 _ rfl
  have c5 := box_cell hb1 5 _ rfl
  have c6 := box_cell hb1 6 _ rfl
  have hs1 := hb1.size
  rw [alloc_size] at hs1
  have hw1 : Below w.heap.size w w1 := (alloc_below _ _).trans (hb1.mono (by omega))
  have hlt : w.heap.size < w1.heap.size := by omega
  have HW1 := Lib.hid hw1
  have HC4 := Lib.hid c4
  have HC5 := Lib.hid c5
  have H4 := Lib.hid (OB.four w1 x0 x1 x2 x3)
  have HA4 := Lib.hid (alloc_below w1 (.cells #[.int .u8 (x0.toNat : Int), .int .u8 (x1.toNat : Int), .int .u8 (x2.toNat : Int), .int .u8 (x3.toNat : Int)] 5))
  have HS4 : Hid (w1.heap.size ≤ (w1.alloc (.cells #[.int .u8 (x0.toNat : Int), .int .u8 (x1.toNat : Int), .int .u8 (x2.toNat : Int), .int .u8 (x3.toNat : Int)] 5)).heap.size) := by show _ ≤ _; rw [alloc_size]; omega
  clear hb1 hs1 hw1
  go_wp2_with (at_builtin; refine wpList_appS rfl (.tmp 27) (.tmp 28) rfl (w1.alloc (.cells #[.int .u8 (x0.toNat : Int), .int .u8 (x1.toNat : Int), .int .u8 (x2.toNat : Int), .int .u8 (x3.toNat : Int)] 5)) w1.heap.size _ [x0, x1, x2, x3] [0] (some ⟨w1.heap.size + 1, 0, none⟩) 1 rfl rfl (alloc_below _ _) H4.out (fun _ => ⟨w1.heap.size + 1, 0, rfl, fun k' hk' => by obtain rfl : k' = 0 := (by simp at hk'; omega); simp⟩) (by simp) HS4.out ?_; intro v3 w3 hv3 hb3; have HO3 := Lib.hid hv3; have HA3 := Lib.hid (HA4.out.trans hb3); have HS3 := Lib.hid (Nat.le_trans HS4.out hb3.size); obtain ⟨g3, z3, rfl, _, _⟩ := World.ownsRow.form hv3 (by simp); have r4 := (HA3.out.cell (p := ⟨w.heap.size, 4, none⟩) hlt).trans HC4.out; have r5 := (HA3.out.cell (p := ⟨w.heap.size, 5, none⟩) hlt).trans HC5.out; clear hv3 hb3)
  have HR4 := Lib.hid (((HA3.out).cell (p := ⟨w.heap.size, 4, none⟩) hlt).trans HC4.out)
  have HN1 := Lib.hid (fun (W : World) => rnum_any data.length 2 W (by omega) (by omega) (by omega))
  have HDV := Lib.hid (HD.out.on HW1.out)
  have hlw : w.heap.size < w3.heap.size := Nat.lt_of_lt_of_le hlt HS3.out
  have r4 := HR4.out
  go_wp2_with fail
  try clear r4
  go_region_held3 (fun w' => w'.cell? ⟨w.heap.size, 4, none⟩ = some (.slice A data.length k))
    (first
      | (go_keep; done)
      | exact HR4.out
      | exact (hb4.cell (p := ⟨w.heap.size, 4, none⟩) hlw).trans HR4.out
      | exact (hb5.cell (p := ⟨w.heap.size, 4, none⟩) hlt).trans ((hb4.cell (p := ⟨w.heap.size, 4, none⟩) hlw).trans HR4.out)
      | exact (hb6.cell (p := ⟨w.heap.size, 4, none⟩) hlt).trans ((hb5.cell (p := ⟨w.heap.size, 4, none⟩) hlt).trans ((hb4.cell (p := ⟨w.heap.size, 4, none⟩) hlw).trans HR4.out)))
    (first
      | (go_at_call 42; refine (HN1.out _).mono ?_; rintro e w4 ⟨v4, rfl, hv4, hb4'⟩; have hb4 : Below w3.heap.size w3 w4 := (by first | exact hb4' | exact ((Below.refl _ _).drew).trans hb4'); have HV4 := Lib.hid hv4; obtain ⟨A4, k4, rfl, _, _, _⟩ := hv4)
      | (refine step_appS rfl (.tmp 34) (.tmp 39) rfl w4 w1.heap.size _ ([x0, x1, x2, x3] ++ [0]) (putL data.length 2) A4 k4 (by rfl) (by rfl) (by first | exact Below.refl _ _ | exact (Below.refl _ _).drew) ((HO3.out).later hb4) (sl_reads HV4.out (by first | exact Below.refl _ _ | exact (Below.refl _ _).drew)) (by simp [putL_length]) (Nat.le_trans HS3.out hb4.size) ?_; intro v5 w5 hv5 hb5)
      | (refine step_appS rfl (.tmp 40) (.tmp 42) rfl w5 w1.heap.size _ (([x0, x1, x2, x3] ++ [0]) ++ putL data.length 2) data A k (by rfl) (by rfl) (by first | exact Below.refl _ _ | exact (Below.refl _ _).drew) hv5 (by first | exact sl_reads HDV.out (((HA3.out).trans (hb4.mono HS3.out)).trans hb5) | exact sl_reads HDV.out (((HA3.out).trans (hb4.mono HS3.out)).trans hb5).drew) (by simp [putL_length]; omega) (Nat.le_trans HS3.out (Nat.le_trans hb4.size hb5.size)) ?_; intro v6 w6 hv6 hb6))
  have HO6 := Lib.hid hv6
  have HA6 := Lib.hid (((((HA3.out).trans (hb4.mono HS3.out))).trans hb5).trans hb6)
  have HS6 : Hid (w1.heap.size ≤ w6.heap.size) := Nat.le_trans (Nat.le_trans HS3.out (Nat.le_trans hb4.size hb5.size)) hb6.size
  obtain ⟨g6, z6, rfl, _, _⟩ := World.ownsRow.form hv6 (by simp)
  clear hv6 hb6 hv5 hb5 hb4 hlw
  generalize hL6 : List.length ((([x0, x1, x2, x3] ++ [0]) ++ putL data.length 2) ++ data) = L6 at *
  have HL6 := Lib.hid hL6
  clear hL6
  have r5 := ((HA6.out).cell (p := ⟨w.heap.size, 5, none⟩) hlt).trans HC5.out
  have HN2 := Lib.hid (rnum_any le 2 w6 (by omega) (by omega) (by omega))
  go_wp2_with fail
  refine HN2.out.mono ?_
  rintro e w7 ⟨v7, rfl, hv7, hb7⟩
  have HV7 := Lib.hid hv7
  obtain ⟨A7, k7, rfl, _, _, _⟩ := hv7
  go_wp2_with (at_builtin; refine wpList_appS rfl (.tmp 47) (.tmp 51) rfl w7 w1.heap.size _ ((([x0, x1, x2, x3] ++ [0]) ++ putL data.length 2) ++ data) (putL le 2) A7 k7 rfl rfl (Below.refl _ _) ((HO6.out).later hb7) (sl_reads HV7.out (Below.refl _ _)) (by simp [putL_length]; omega) (Nat.le_trans HS6.out hb7.size) ?_; intro v8 w8 hv8 hb8)
  have HO8 := Lib.hid hv8
  have HA8 := Lib.hid (((HA6.out).trans (hb7.mono HS6.out)).trans hb8)
  clear hv8 hb8 hb7 r5
  go_wp2_with fail
  go_ret2
  exact ⟨_, by rw [H0.out]; rfl, by rw [HV.out]; exact (HO8.out).sl, HW1.out.trans ((HA8.out).mono HW1.out.size)⟩

set_option maxRecDepth 100000 in
theorem renc_bad (c : Cm) (d : Value) (w : World) (hv : SL w w.heap.size d c.data) (h0 : chkC c ≠ 0) (hle : -9223372036854775808 ≤ c.le ∧ c.le ≤ 9223372036854775807) : Calls Try.prog 13 #[c.val d] w (EncR c w) := by
  have HV : Hid (encV c = []) := by show _ = _; rw [encV, if_neg h0]
  obtain ⟨A, k, rfl, _, _, _⟩ := hv
  have HC := Lib.hid (fun (w : World) => rchk_any c A c.data.length k w rfl hle)
  have hkn : (chkC c != 0) = true := by rw [bne_iff_ne]; exact h0
  obtain ⟨E, hE⟩ : ∃ E, E = chkC c := ⟨_, rfl⟩
  rw [← hE] at hkn HC
  have HE := Lib.hid hE
  clear hE h0
  obtain ⟨cla, ins, p1, p2, data, le, long⟩ := c
  simp only [Cm.val] at *
  go_enter Try.func13, Try.ntmps13
  go_wp2_with fail
  refine (HC.out _).mono ?_
  rintro e w1 ⟨rfl, hb1⟩
  go_wp2_with fail
  go_ret2
  exact ⟨_, by rw [← HE.out]; rfl, by rw [HV.out]; exact SL.nil _ _ _ _ (Nat.zero_le _), (alloc_below _ _).trans (hb1.mono (by rw [alloc_size]; omega))⟩
/-- Encode, of the reference. -/
theorem renc_any (c : Cm) (d : Value) (w : World) (hv : SL w w.heap.size d c.data) (hle : -9223372036854775808 ≤ c.le ∧ c.le ≤ 9223372036854775807) :
    Calls Try.prog 13 #[c.val d] w (EncR c w) := by
  by_cases h0 : chkC c = 0
  · obtain ⟨hb, _, _, hp4, _, _⟩ := chk_parts h0
    obtain ⟨cla, ins, p1, p2, data, le, long⟩ := c
    simp only [bytesC, Bool.and_eq_true] at hb
    obtain ⟨⟨⟨b0, b1⟩, b2⟩, b3⟩ := hb
    obtain ⟨x0, rfl⟩ := byte_of b0
    obtain ⟨x1, rfl⟩ := byte_of b1
    obtain ⟨x2, rfl⟩ := byte_of b2
    obtain ⟨x3, rfl⟩ := byte_of b3
    obtain ⟨n, rfl⟩ := Int.eq_ofNat_of_zero_le hp4
    rcases Nat.eq_zero_or_pos data.length with hd | hd
    · obtain rfl := List.eq_nil_of_length_eq_zero hd
      rcases Nat.eq_zero_or_pos n with hl | hl
      · subst hl
        cases long
        · exact renc_Sde x0 x1 x2 x3 d w hv h0
        · exact renc_Lde x0 x1 x2 x3 d w hv h0
      · cases long
        · exact renc_SdE x0 x1 x2 x3 n d w hv h0 hl
        · exact renc_LdE x0 x1 x2 x3 n d w hv h0 hl
    · rcases Nat.eq_zero_or_pos n with hl | hl
      · subst hl
        cases long
        · exact renc_SDe x0 x1 x2 x3 data d w hv h0 hd
        · exact renc_LDe x0 x1 x2 x3 data d w hv h0 hd
      · cases long
        · exact renc_SDE x0 x1 x2 x3 data n d w hv h0 hd hl
        · exact renc_LDE x0 x1 x2 x3 data n d w hv h0 hd hl
  · exact renc_bad c d w hv h0 hle
end Go.Proofs.Ytjoibonbmalbdaa
