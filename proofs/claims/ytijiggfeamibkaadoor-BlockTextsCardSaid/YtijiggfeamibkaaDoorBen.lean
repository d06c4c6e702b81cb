
/-
  The walk of the program's Encode.
-/
import Derived.Test.YtijiggfeamibkaaDoorRck
namespace Go.Proofs.YtijiggfeamibkaaDoor
set_option linter.unusedVariables false
set_option linter.unusedSimpArgs false
open Go.RowKit

theorem mt_ctl_122 (v : Value) (w : World) : (method 214 46 v "smartcard/block.control").run Tryd.prog w = .ok (51, v) w := by kernel_rfl
theorem mt_ctl_124 (v : Value) (w : World) : (method 214 48 v "smartcard/block.control").run Tryd.prog w = .ok (80, v) w := by kernel_rfl
theorem mt_ctl_126 (v : Value) (w : World) : (method 214 50 v "smartcard/block.control").run Tryd.prog w = .ok (86, v) w := by kernel_rfl
/-- The three bytes ahead of the information field, in a block of their own. -/
theorem OB.head (w : World) (x y z : UInt8) (a b c : Int) (ha : a = (x.toNat : Int)) (hb : b = (y.toNat : Int)) (hc : c = (z.toNat : Int)) :
    OB (w.alloc (.cells #[.int .u8 a, .int .u8 b, .int .u8 c] 5)) w.heap.size (.slice (some ⟨w.heap.size, 0, none⟩) 3 3) [x, y, z] := by
  subst ha hb hc
  exact OB.of_cells (Nat.le_refl _) rfl (by unfold maxLen; omega) (heap_alloc_new w _)
theorem u8_nat {n : Nat} (h : n < 256) : ((n : Nat) : Int) = ((UInt8.ofNat n).toNat : Int) := by rw [byte_toNat h]
theorem u8_wrap_nat {n : Nat} (h : n < 256) : IntKind.u8.wrap ((n : Nat) : Int) = ((UInt8.ofNat n).toNat : Int) := by rw [byte_toNat h]; exact IntWalk.u8_in _ (by omega)
theorem u8_wrap_byte (x : UInt8) : IntKind.u8.wrap (x.toNat : Int) = (x.toNat : Int) := IntWalk.u8_in _ (by have := x.toNat_lt; omega)
def hdL (x y z : UInt8) (l : List UInt8) : List UInt8 := [x, y, z] ++ l
/-- What Encode returns. -/
def BenR (k : Int) (b : Bk) (w : World) (e : Ending) (w' : World) : Prop :=
  ∃ v', e = .returned (.tuple #[v', .int .i64 (benE k b)]) ∧ SL w' w'.heap.size v' (benV k b) ∧ Below w.heap.size w w'

set_option maxRecDepth 100000 in
set_option maxHeartbeats 1600000 in
theorem penc_inf (k : Int) (x : UInt8) (s : Int) (m : Bool) (l : List UInt8) (v : Value) (w : World) (hv : SL w w.heap.size v l) (hT : Tb w) (hk : sizeK k ≠ 0)
    (hr : (Kd.inf s m).rng = true) (hl : l.length ≤ 254) (hc : chkB ⟨(x.toNat : Int), 0, s, m, 0, false, l⟩ = 0) :
    Calls Tryd.prog 16 #[Bk.val ⟨(x.toNat : Int), 0, s, m, 0, false, l⟩ v, .int .i64 k] w (AppR k (hdL x (UInt8.ofNat (Kd.inf s m).ctl) (UInt8.ofNat l.length) l) w) := by
  have HV := Lib.hid hv
  have HT := Lib.hid hT
  obtain ⟨A, c, rfl, _, _, _⟩ := hv
  have HS := psize_any k
  have hk0 : ((sizeK k : Int) == 0) = false := by rw [beq_eq_false_iff_ne]; omega
  have HCK := fun (W : World) (hW : Below w.heap.size w W) => pchk_any ⟨(x.toNat : Int), 0, s, m, 0, false, l⟩ _ W (HV.out.on hW)
  rw [hc] at HCK
  have HCK := Lib.hid HCK
  have HKD := Lib.hid (fun (W : World) => pkind_inf ⟨(x.toNat : Int), 0, s, m, 0, false, l⟩ (.slice A l.length c) W rfl)
  have HCT := Lib.hid (fun (W : World) => pctl_inf s m W hr)
  have hx := x.toNat_lt
  have hcl := ctl_lt hr
  generalize (Kd.inf s m).ctl = ct at *
  have HAP := Lib.hid (fun (v' : Value) (W : World) (h1 : SL W W.heap.size v' (hdL x (UInt8.ofNat ct) (UInt8.ofNat l.length) l)) (h2 : Tb W) => papp_any k (hdL x (UInt8.ofNat ct) (UInt8.ofNat l.length) l) v' W h1 h2 (by simp [hdL]; omega))
  have HSE : Hid (sumE k = 0) := by show _ = _; rcases sumE_cases k with ⟨h, _⟩ | ⟨_, h⟩ <;> omega
  generalize sizeK k = sz at *
  have HS := Lib.hid HS
  have HM := Lib.hid (fun (v : Value) (w : World) => mt_ctl_122 v w)
  simp only [Bk.val, Kd.val] at *
  clear hT hk hr hc
  go_enter Tryd.func16, Tryd.ntmps16
  go_wp2_with fail
  refine (HS.out _).mono ?_
  rintro e w1 ⟨rfl, rfl⟩
  go_wp2_with fail
  refine (HCK.out _ (alloc_below _ _)).mono ?_
  rintro e w1 ⟨rfl, hb1⟩
  have HR1 := Lib.hid ((hb1.block _ (by rw [alloc_size]; omega)).trans (heap_alloc_new w _))
  have HW1 := Lib.hid (below_alloc2 hb1)
  have hs1 : w.heap.size < w1.heap.size := by have := hb1.size; rw [alloc_size] at this; omega
  clear hb1
  obtain ⟨r0, r1, r2, r3, r4, r5, r6⟩ := cells7 HR1.out
  go_wp2_with fail
  refine (HKD.out _).mono ?_
  rintro e w2 ⟨rfl, hb2⟩
  have HR2 := Lib.hid ((hb2.block _ hs1).trans HR1.out)
  have HW2 := Lib.hid (HW1.out.trans (hb2.mono HW1.out.size))
  have hs2 : w.heap.size < w2.heap.size := by have := hb2.size; omega
  clear hb2 r0 r1 r2 r3 r4 r5 r6
  have hm := HM.out
  go_wp2_with fail
  go_region_held3 (fun w' => w'.cell? ⟨w.heap.size, 0, none⟩ = some (.int .i64 (x.toNat : Int)) ∧ w'.cell? ⟨w.heap.size, 6, none⟩ = some (.slice A l.length c))
    (first
      | (go_keep; done)
      | exact ⟨(cells7 HR2.out).1, (cells7 HR2.out).2.2.2.2.2.2⟩
      | exact ⟨(cells7 ((hb3.block _ (by show w.heap.size < w2.heap.size; exact hs2)).trans HR2.out)).1, (cells7 ((hb3.block _ (by show w.heap.size < w2.heap.size; exact hs2)).trans HR2.out)).2.2.2.2.2.2⟩)
    ((go_at_call 51; refine (HCT.out _).mono ?_; rintro e w3 ⟨rfl, hb3⟩; have hs3 : w.heap.size < w3.heap.size := (by have h := hb3.size; have h' : w2.heap.size ≤ w3.heap.size := h; omega)))
  clear hm
  have hw3 : Below w.heap.size w w3 := HW2.out.trans (Below.mono (by first | exact hb3 | exact (drewN_below _ _ _).trans hb3) HW2.out.size)
  have hr6 := (cells7 ((hb3.block _ (by show w.heap.size < w2.heap.size; exact hs2)).trans HR2.out)).2.2.2.2.2.2
  have hown := OB.head w3 x (UInt8.ofNat ct) (UInt8.ofNat l.length) _ _ _ (u8_wrap_byte x) (u8_nat hcl) (u8_wrap_nat (show l.length < 256 by omega))
  have hal := alloc_below w3 (.cells #[.int .u8 (IntKind.u8.wrap (x.toNat : Int)), .int .u8 (ct : Int), .int .u8 (IntKind.u8.wrap (l.length : Int))] 5)
  have hgs : w3.heap.size < (w3.alloc (.cells #[.int .u8 (IntKind.u8.wrap (x.toNat : Int)), .int .u8 (ct : Int), .int .u8 (IntKind.u8.wrap (l.length : Int))] 5)).heap.size := by rw [alloc_size]; omega
  have hr7 := (hal.cell (p := ⟨w.heap.size, 6, none⟩) hs3).trans hr6
  generalize w3.alloc (.cells #[.int .u8 (IntKind.u8.wrap (x.toNat : Int)), .int .u8 (ct : Int), .int .u8 (IntKind.u8.wrap (l.length : Int))] 5) = w4 at *
  have hw4 := hw3.trans (hal.mono hw3.size)
  have HL4 := Lib.hid (HV.out.on hw4)
  have HO4 := Lib.hid hown
  have HW4 := Lib.hid hw4
  have HG4 := Lib.hid hgs
  have HAL := Lib.hid hal
  have HS3 := Lib.hid (hw3.size)
  clear hb3 hw3 hr6 hown hal hgs hw4 hs1 hs2 hs3
  go_wp2_with (at_builtin; refine wpList_appS rfl (.tmp 34) (.tmp 36) rfl w4 w3.heap.size _ [x, UInt8.ofNat ct, UInt8.ofNat l.length] l A c rfl rfl (Below.refl _ _) HO4.out (fun hp => by obtain ⟨A', c', e, _, _, hr⟩ := HL4.out; simp only [Value.slice.injEq, true_and] at e; obtain ⟨rfl, rfl⟩ := e; obtain ⟨b, o, hA, hb, hc⟩ := hr hp; exact ⟨b, o, hA, hc⟩) (by simp; omega) (by have := HG4.out; omega) ?_; intro v5 w5 hv5 hb5)
  have hw5 : Below w.heap.size w w5 := HW4.out.trans (hb5.mono HS3.out)
  have HAP2 := Lib.hid (HAP.out _ _ hv5.sl (HT.out.on hw5))
  have HW5 := Lib.hid hw5
  clear hv5 hb5 hw5
  go_wp2_with fail
  refine HAP2.out.mono ?_
  rintro e w6 ⟨v6, rfl, hv6, hb6⟩
  go_wp2_with fail
  go_ret2
  exact ⟨_, rfl, hv6, HW5.out.trans (hb6.mono HW5.out.size)⟩

set_option maxRecDepth 100000 in
set_option maxHeartbeats 1600000 in
theorem penc_rdy (k : Int) (x : UInt8) (s code : Int) (l : List UInt8) (v : Value) (w : World) (hv : SL w w.heap.size v l) (hT : Tb w) (hk : sizeK k ≠ 0)
    (hr : (Kd.rdy s code).rng = true) (hl : l.length ≤ 254) (hc : chkB ⟨(x.toNat : Int), 1, s, false, code, false, l⟩ = 0) :
    Calls Tryd.prog 16 #[Bk.val ⟨(x.toNat : Int), 1, s, false, code, false, l⟩ v, .int .i64 k] w (AppR k (hdL x (UInt8.ofNat (Kd.rdy s code).ctl) (UInt8.ofNat l.length) l) w) := by
  have HV := Lib.hid hv
  have HT := Lib.hid hT
  obtain ⟨A, c, rfl, _, _, _⟩ := hv
  have HS := psize_any k
  have hk0 : ((sizeK k : Int) == 0) = false := by rw [beq_eq_false_iff_ne]; omega
  have HCK := fun (W : World) (hW : Below w.heap.size w W) => pchk_any ⟨(x.toNat : Int), 1, s, false, code, false, l⟩ _ W (HV.out.on hW)
  rw [hc] at HCK
  have HCK := Lib.hid HCK
  have HKD := Lib.hid (fun (W : World) => pkind_rdy ⟨(x.toNat : Int), 1, s, false, code, false, l⟩ (.slice A l.length c) W rfl)
  have HCT := Lib.hid (fun (W : World) => pctl_rdy s code W hr)
  have hx := x.toNat_lt
  have hcl := ctl_lt hr
  generalize (Kd.rdy s code).ctl = ct at *
  have HAP := Lib.hid (fun (v' : Value) (W : World) (h1 : SL W W.heap.size v' (hdL x (UInt8.ofNat ct) (UInt8.ofNat l.length) l)) (h2 : Tb W) => papp_any k (hdL x (UInt8.ofNat ct) (UInt8.ofNat l.length) l) v' W h1 h2 (by simp [hdL]; omega))
  have HSE : Hid (sumE k = 0) := by show _ = _; rcases sumE_cases k with ⟨h, _⟩ | ⟨_, h⟩ <;> omega
  generalize sizeK k = sz at *
  have HS := Lib.hid HS
  have HM := Lib.hid (fun (v : Value) (w : World) => mt_ctl_124 v w)
  simp only [Bk.val, Kd.val] at *
  clear hT hk hr hc
  go_enter Tryd.func16, Tryd.ntmps16
  go_wp2_with fail
  refine (HS.out _).mono ?_
  rintro e w1 ⟨rfl, rfl⟩
  go_wp2_with fail
  refine (HCK.out _ (alloc_below _ _)).mono ?_
  rintro e w1 ⟨rfl, hb1⟩
  have HR1 := Lib.hid ((hb1.block _ (by rw [alloc_size]; omega)).trans (heap_alloc_new w _))
  have HW1 := Lib.hid (below_alloc2 hb1)
  have hs1 : w.heap.size < w1.heap.size := by have := hb1.size; rw [alloc_size] at this; omega
  clear hb1
  obtain ⟨r0, r1, r2, r3, r4, r5, r6⟩ := cells7 HR1.out
  go_wp2_with fail
  refine (HKD.out _).mono ?_
  rintro e w2 ⟨rfl, hb2⟩
  have HR2 := Lib.hid ((hb2.block _ hs1).trans HR1.out)
  have HW2 := Lib.hid (HW1.out.trans (hb2.mono HW1.out.size))
  have hs2 : w.heap.size < w2.heap.size := by have := hb2.size; omega
  clear hb2 r0 r1 r2 r3 r4 r5 r6
  have hm := HM.out
  go_wp2_with fail
  go_region_held3 (fun w' => w'.cell? ⟨w.heap.size, 0, none⟩ = some (.int .i64 (x.toNat : Int)) ∧ w'.cell? ⟨w.heap.size, 6, none⟩ = some (.slice A l.length c))
    (first
      | (go_keep; done)
      | exact ⟨(cells7 HR2.out).1, (cells7 HR2.out).2.2.2.2.2.2⟩
      | exact ⟨(cells7 ((hb3.block _ (by show w.heap.size < w2.heap.size; exact hs2)).trans HR2.out)).1, (cells7 ((hb3.block _ (by show w.heap.size < w2.heap.size; exact hs2)).trans HR2.out)).2.2.2.2.2.2⟩)
    ((go_at_call 80; refine (HCT.out _).mono ?_; rintro e w3 ⟨rfl, hb3⟩; have hs3 : w.heap.size < w3.heap.size := (by have h := hb3.size; have h' : w2.heap.size ≤ w3.heap.size := h; omega)))
  clear hm
  have hw3 : Below w.heap.size w w3 := HW2.out.trans (Below.mono (by first | exact hb3 | exact (drewN_below _ _ _).trans hb3) HW2.out.size)
  have hr6 := (cells7 ((hb3.block _ (by show w.heap.size < w2.heap.size; exact hs2)).trans HR2.out)).2.2.2.2.2.2
  have hown := OB.head w3 x (UInt8.ofNat ct) (UInt8.ofNat l.length) _ _ _ (u8_wrap_byte x) (u8_nat hcl) (u8_wrap_nat (show l.length < 256 by omega))
  have hal := alloc_below w3 (.cells #[.int .u8 (IntKind.u8.wrap (x.toNat : Int)), .int .u8 (ct : Int), .int .u8 (IntKind.u8.wrap (l.length : Int))] 5)
  have hgs : w3.heap.size < (w3.alloc (.cells #[.int .u8 (IntKind.u8.wrap (x.toNat : Int)), .int .u8 (ct : Int), .int .u8 (IntKind.u8.wrap (l.length : Int))] 5)).heap.size := by rw [alloc_size]; omega
  have hr7 := (hal.cell (p := ⟨w.heap.size, 6, none⟩) hs3).trans hr6
  generalize w3.alloc (.cells #[.int .u8 (IntKind.u8.wrap (x.toNat : Int)), .int .u8 (ct : Int), .int .u8 (IntKind.u8.wrap (l.length : Int))] 5) = w4 at *
  have hw4 := hw3.trans (hal.mono hw3.size)
  have HL4 := Lib.hid (HV.out.on hw4)
  have HO4 := Lib.hid hown
  have HW4 := Lib.hid hw4
  have HG4 := Lib.hid hgs
  have HAL := Lib.hid hal
  have HS3 := Lib.hid (hw3.size)
  clear hb3 hw3 hr6 hown hal hgs hw4 hs1 hs2 hs3
  go_wp2_with (at_builtin; refine wpList_appS rfl (.tmp 34) (.tmp 36) rfl w4 w3.heap.size _ [x, UInt8.ofNat ct, UInt8.ofNat l.length] l A c rfl rfl (Below.refl _ _) HO4.out (fun hp => by obtain ⟨A', c', e, _, _, hr⟩ := HL4.out; simp only [Value.slice.injEq, true_and] at e; obtain ⟨rfl, rfl⟩ := e; obtain ⟨b, o, hA, hb, hc⟩ := hr hp; exact ⟨b, o, hA, hc⟩) (by simp; omega) (by have := HG4.out; omega) ?_; intro v5 w5 hv5 hb5)
  have hw5 : Below w.heap.size w w5 := HW4.out.trans (hb5.mono HS3.out)
  have HAP2 := Lib.hid (HAP.out _ _ hv5.sl (HT.out.on hw5))
  have HW5 := Lib.hid hw5
  clear hv5 hb5 hw5
  go_wp2_with fail
  refine HAP2.out.mono ?_
  rintro e w6 ⟨v6, rfl, hv6, hb6⟩
  go_wp2_with fail
  go_ret2
  exact ⟨_, rfl, hv6, HW5.out.trans (hb6.mono HW5.out.size)⟩

set_option maxRecDepth 100000 in
set_option maxHeartbeats 1600000 in
theorem penc_sup (k : Int) (x : UInt8) (code : Int) (ans : Bool) (l : List UInt8) (v : Value) (w : World) (hv : SL w w.heap.size v l) (hT : Tb w) (hk : sizeK k ≠ 0)
    (hr : (Kd.sup code ans).rng = true) (hl : l.length ≤ 254) (hc : chkB ⟨(x.toNat : Int), 2, 0, false, code, ans, l⟩ = 0) :
    Calls Tryd.prog 16 #[Bk.val ⟨(x.toNat : Int), 2, 0, false, code, ans, l⟩ v, .int .i64 k] w (AppR k (hdL x (UInt8.ofNat (Kd.sup code ans).ctl) (UInt8.ofNat l.length) l) w) := by
  have HV := Lib.hid hv
  have HT := Lib.hid hT
  obtain ⟨A, c, rfl, _, _, _⟩ := hv
  have HS := psize_any k
  have hk0 : ((sizeK k : Int) == 0) = false := by rw [beq_eq_false_iff_ne]; omega
  have HCK := fun (W : World) (hW : Below w.heap.size w W) => pchk_any ⟨(x.toNat : Int), 2, 0, false, code, ans, l⟩ _ W (HV.out.on hW)
  rw [hc] at HCK
  have HCK := Lib.hid HCK
  have HKD := Lib.hid (fun (W : World) => pkind_sup ⟨(x.toNat : Int), 2, 0, false, code, ans, l⟩ (.slice A l.length c) W rfl)
  have HCT := Lib.hid (fun (W : World) => pctl_sup code ans W hr)
  have hx := x.toNat_lt
  have hcl := ctl_lt hr
  generalize (Kd.sup code ans).ctl = ct at *
  have HAP := Lib.hid (fun (v' : Value) (W : World) (h1 : SL W W.heap.size v' (hdL x (UInt8.ofNat ct) (UInt8.ofNat l.length) l)) (h2 : Tb W) => papp_any k (hdL x (UInt8.ofNat ct) (UInt8.ofNat l.length) l) v' W h1 h2 (by simp [hdL]; omega))
  have HSE : Hid (sumE k = 0) := by show _ = _; rcases sumE_cases k with ⟨h, _⟩ | ⟨_, h⟩ <;> omega
  generalize sizeK k = sz at *
  have HS := Lib.hid HS
  have HM := Lib.hid (fun (v : Value) (w : World) => mt_ctl_126 v w)
  simp only [Bk.val, Kd.val] at *
  clear hT hk hr hc
  go_enter Tryd.func16, Tryd.ntmps16
  go_wp2_with fail
  refine (HS.out _).mono ?_
  rintro e w1 ⟨rfl, rfl⟩
  go_wp2_with fail
  refine (HCK.out _ (alloc_below _ _)).mono ?_
  rintro e w1 ⟨rfl, hb1⟩
  have HR1 := Lib.hid ((hb1.block _ (by rw [alloc_size]; omega)).trans (heap_alloc_new w _))
  have HW1 := Lib.hid (below_alloc2 hb1)
  have hs1 : w.heap.size < w1.heap.size := by have := hb1.size; rw [alloc_size] at this; omega
  clear hb1
  obtain ⟨r0, r1, r2, r3, r4, r5, r6⟩ := cells7 HR1.out
  go_wp2_with fail
  refine (HKD.out _).mono ?_
  rintro e w2 ⟨rfl, hb2⟩
  have HR2 := Lib.hid ((hb2.block _ hs1).trans HR1.out)
  have HW2 := Lib.hid (HW1.out.trans (hb2.mono HW1.out.size))
  have hs2 : w.heap.size < w2.heap.size := by have := hb2.size; omega
  clear hb2 r0 r1 r2 r3 r4 r5 r6
  have hm := HM.out
  go_wp2_with fail
  go_region_held3 (fun w' => w'.cell? ⟨w.heap.size, 0, none⟩ = some (.int .i64 (x.toNat : Int)) ∧ w'.cell? ⟨w.heap.size, 6, none⟩ = some (.slice A l.length c))
    (first
      | (go_keep; done)
      | exact ⟨(cells7 HR2.out).1, (cells7 HR2.out).2.2.2.2.2.2⟩
      | exact ⟨(cells7 ((hb3.block _ (by show w.heap.size < w2.heap.size; exact hs2)).trans HR2.out)).1, (cells7 ((hb3.block _ (by show w.heap.size < w2.heap.size; exact hs2)).trans HR2.out)).2.2.2.2.2.2⟩)
    ((go_at_call 86; refine (HCT.out _).mono ?_; rintro e w3 ⟨rfl, hb3⟩; have hs3 : w.heap.size < w3.heap.size := (by have h := hb3.size; have h' : w2.heap.size ≤ w3.heap.size := h; omega)))
  clear hm
  have hw3 : Below w.heap.size w w3 := HW2.out.trans (Below.mono (by first | exact hb3 | exact (drewN_below _ _ _).trans hb3) HW2.out.size)
  have hr6 := (cells7 ((hb3.block _ (by show w.heap.size < w2.heap.size; exact hs2)).trans HR2.out)).2.2.2.2.2.2
  have hown := OB.head w3 x (UInt8.ofNat ct) (UInt8.ofNat l.length) _ _ _ (u8_wrap_byte x) (u8_nat hcl) (u8_wrap_nat (show l.length < 256 by omega))
  have hal := alloc_below w3 (.cells #[.int .u8 (IntKind.u8.wrap (x.toNat : Int)), .int .u8 (ct : Int), .int .u8 (IntKind.u8.wrap (l.length : Int))] 5)
  have hgs : w3.heap.size < (w3.alloc (.cells #[.int .u8 (IntKind.u8.wrap (x.toNat : Int)), .int .u8 (ct : Int), .int .u8 (IntKind.u8.wrap (l.length : Int))] 5)).heap.size := by rw [alloc_size]; omega
  have hr7 := (hal.cell (p := ⟨w.heap.size, 6, none⟩) hs3).trans hr6
  generalize w3.alloc (.cells #[.int .u8 (IntKind.u8.wrap (x.toNat : Int)), .int .u8 (ct : Int), .int .u8 (IntKind.u8.wrap (l.length : Int))] 5) = w4 at *
  have hw4 := hw3.trans (hal.mono hw3.size)
  have HL4 := Lib.hid (HV.out.on hw4)
  have HO4 := Lib.hid hown
  have HW4 := Lib.hid hw4
  have HG4 := Lib.hid hgs
  have HAL := Lib.hid hal
  have HS3 := Lib.hid (hw3.size)
  clear hb3 hw3 hr6 hown hal hgs hw4 hs1 hs2 hs3
  go_wp2_with (at_builtin; refine wpList_appS rfl (.tmp 34) (.tmp 36) rfl w4 w3.heap.size _ [x, UInt8.ofNat ct, UInt8.ofNat l.length] l A c rfl rfl (Below.refl _ _) HO4.out (fun hp => by obtain ⟨A', c', e, _, _, hr⟩ := HL4.out; simp only [Value.slice.injEq, true_and] at e; obtain ⟨rfl, rfl⟩ := e; obtain ⟨b, o, hA, hb, hc⟩ := hr hp; exact ⟨b, o, hA, hc⟩) (by simp; omega) (by have := HG4.out; omega) ?_; intro v5 w5 hv5 hb5)
  have hw5 : Below w.heap.size w w5 := HW4.out.trans (hb5.mono HS3.out)
  have HAP2 := Lib.hid (HAP.out _ _ hv5.sl (HT.out.on hw5))
  have HW5 := Lib.hid hw5
  clear hv5 hb5 hw5
  go_wp2_with fail
  refine HAP2.out.mono ?_
  rintro e w6 ⟨v6, rfl, hv6, hb6⟩
  go_wp2_with fail
  go_ret2
  exact ⟨_, rfl, hv6, HW5.out.trans (hb6.mono HW5.out.size)⟩

theorem psz (k : Int) : (sizeK k : Int) = 0 ∨ (sizeK k : Int) ≠ 0 := by omega
set_option maxRecDepth 100000 in
set_option maxHeartbeats 1600000 in
theorem penc_no (k : Int) (b : Bk) (v : Value) (w : World) (hv : SL w w.heap.size v b.inf) (he : benE k b ≠ 0) :
    Calls Tryd.prog 16 #[b.val v, .int .i64 k] w (BenR k b w) := by
  have HVN : Hid (benV k b = []) := by show _ = _; rw [benV, if_neg he]
  have HV := Lib.hid hv
  have HS := psize_any k
  by_cases h0 : sizeK k = 0
  · have HE : Hid (benE k b = 1) := by show _ = _; rw [benE, if_pos h0]
    rw [h0] at HS
    have HS := Lib.hid HS
    clear h0 he
    obtain ⟨nad, kind, s, m, code, ans, l⟩ := b
    simp only [Bk.val]
    go_enter Tryd.func16, Tryd.ntmps16
    go_wp2_with fail
    refine (HS.out _).mono ?_
    rintro e w1 ⟨rfl, rfl⟩
    go_wp2_with fail
    go_ret2
    exact ⟨_, by rw [HE.out]; rfl, by rw [HVN.out]; exact SL.nil _ _ _ _ (Nat.zero_le _), alloc_below _ _⟩
  · have HE : Hid (benE k b = chkB b) := by show _ = _; rw [benE, if_neg h0]
    have hk0 : ((sizeK k : Int) == 0) = false := by rw [beq_eq_false_iff_ne]; omega
    rw [HE.out] at he
    have e0 : (chkB b != 0) = true := by rw [bne_iff_ne]; exact he
    have HCK := Lib.hid (fun (W : World) (hW : Below w.heap.size w W) => pchk_any b _ W (HV.out.on hW))
    have HS := Lib.hid HS
    generalize sizeK k = sz at *
    generalize chkB b = ce at *
    clear h0 he
    obtain ⟨nad, kind, s, m, code, ans, l⟩ := b
    simp only [Bk.val] at *
    go_enter Tryd.func16, Tryd.ntmps16
    go_wp2_with fail
    refine (HS.out _).mono ?_
    rintro e w1 ⟨rfl, rfl⟩
    go_wp2_with fail
    refine (HCK.out _ (alloc_below _ _)).mono ?_
    rintro e w1 ⟨rfl, hb1⟩
    go_wp2_with fail
    go_ret2
    exact ⟨_, by rw [HE.out]; rfl, by rw [HVN.out]; exact SL.nil _ _ _ _ (Nat.zero_le _), below_alloc2 hb1⟩
/-- Encode, of the program. -/
theorem penc_any (k : Int) (b : Bk) (v : Value) (w : World) (hv : SL w w.heap.size v b.inf) (hT : Tb w) :
    Calls Tryd.prog 16 #[b.val v, .int .i64 k] w (BenR k b w) := by
  by_cases he : benE k b = 0
  · obtain ⟨hk, hc, hV⟩ := benE_app he
    obtain ⟨h1, h2, h3, h4, h5⟩ := chk_ok hc
    have hz : sizeK k ≠ 0 := by rcases hk with rfl | rfl <;> decide
    have hl := infE_len h4
    have hn := nad_cases h1
    have hse : sumE k = 0 := by rcases hk with rfl | rfl <;> rfl
    obtain ⟨x, hx⟩ : ∃ x : UInt8, b.nad = (x.toNat : Int) := ⟨UInt8.ofNat b.nad.toNat, by rw [byte_toNat (by omega)]; omega⟩
    have fin : ∀ e w', AppR k (hdL x (UInt8.ofNat (kdOf b).ctl) (UInt8.ofNat b.inf.length) b.inf) w e w' → BenR k b w e w' := by
      rintro e w' ⟨v', h1, h2, h3⟩
      have hraw : rawL b = hdL x (UInt8.ofNat (kdOf b).ctl) (UInt8.ofNat b.inf.length) b.inf := by
        unfold rawL hdL
        rw [hx]
        congr 2
        apply UInt8.toNat_inj.1
        rw [byte_toNat (by omega)]
        omega
      exact ⟨v', by rw [h1, he, hse], by rw [hV, hraw]; exact h2, h3⟩
    obtain ⟨nad, kind, s, m, code, ans, l⟩ := b
    simp only at hx h5 hl
    subst hx
    rcases h5 with rfl | rfl | rfl
    · simp only [kdOf, compB, Bk.mk.injEq] at h3 h2 fin
      obtain ⟨_, _, _, _, rfl, rfl, _⟩ := h3
      exact (penc_inf k x s m l v w hv hT hz h2 hl hc).mono fin
    · simp only [kdOf, compB, Bk.mk.injEq] at h3 h2 fin
      obtain ⟨_, _, _, rfl, _, rfl, _⟩ := h3
      exact (penc_rdy k x s code l v w hv hT hz h2 hl hc).mono fin
    · simp only [kdOf, compB, Bk.mk.injEq] at h3 h2 fin
      obtain ⟨_, _, rfl, rfl, _, _, _⟩ := h3
      exact (penc_sup k x code ans l v w hv hT hz h2 hl hc).mono fin
  · exact penc_no k b v w hv he
end Go.Proofs.YtijiggfeamibkaaDoor
