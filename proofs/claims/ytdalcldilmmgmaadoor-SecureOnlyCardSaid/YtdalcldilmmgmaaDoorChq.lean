/-
  The walks of decrypt, commandMAC, responseMAC.
-/
import Derived.Test.YtdalcldilmmgmaaDoorChp
namespace Go.Proofs.YtdalcldilmmgmaaDoor
set_option linter.unusedVariables false
set_option linter.unusedSimpArgs false
open Go.RowKit

theorem LL.lit {w : World} (B : Nat) (vs : List Value) (ls : List (List UInt8)) (hlen : vs.length = ls.length) (h1 : ls.length ≤ 1000) (hb : w.heap[B]? = some (.cells vs.toArray 22 (0, 0)))
    (hv : ∀ k, k < ls.length → SL w w.heap.size (vs.getD k (.slice none 0 0)) (ls.getD k [])) : LL w w.heap.size (.slice (some ⟨B, 0, none⟩) ls.length ls.length) ls :=
  ⟨some ⟨B, 0, none⟩, ls.length, vs, rfl, Nat.le_refl _, by unfold maxLen; omega, hlen, fun _ => ⟨B, 0, rfl, blk_lt hb, fun k hk => by
    rw [cell_of_row w B _ _ 22 (0, 0) hb, Nat.zero_add, List.getElem?_toArray, List.getD_eq_getElem?_getD, List.getElem?_eq_getElem (by omega)]
    rfl⟩, hv⟩

theorem join2 (a b : List UInt8) (va vb : Value) (W : World) (ha : SL W W.heap.size va a) (hb : SL W W.heap.size vb b) (la : a.length ≤ 4000) (lb : b.length ≤ 4000) (W2 : World) (hal : Below W.heap.size W W2) (ho : W2.heap[W.heap.size]? = some (Obj.cells #[va, vb] 22 (0, 0))) :
    Calls Tryd.prog 42 #[.slice (some ⟨W.heap.size, 0, none⟩) 2 2] W2 fun e w' => ∃ v', e = .returned v' ∧ SL w' w'.heap.size v' (a ++ b) ∧ Below W.heap.size W w' := by
  have hll : LL W2 W2.heap.size (.slice (some ⟨W.heap.size, 0, none⟩) 2 2) [a, b] :=
    LL.lit W.heap.size [va, vb] [a, b] rfl (by simp) ho (fun k hk => by
      have : k = 0 ∨ k = 1 := by simp at hk; omega
      rcases this with rfl | rfl
      · exact ha.on hal
      · exact hb.on hal)
  refine (pjoin_any [a, b] _ _ hll (by simp) (by simp [Lib.lens]; omega)).mono fun e w' ⟨v', e1, e2, e3⟩ => ⟨v', e1, by simpa using e2, hal.trans (e3.mono hal.size)⟩
theorem join4 (a b c d : List UInt8) (va vb vc vd : Value) (W : World) (ha : SL W W.heap.size va a) (hb : SL W W.heap.size vb b) (hc : SL W W.heap.size vc c) (hd : SL W W.heap.size vd d) (la : a.length ≤ 4000) (lb : b.length ≤ 4000) (lc : c.length ≤ 4000) (ld : d.length ≤ 4000) (W2 : World) (hal : Below W.heap.size W W2) (ho : W2.heap[W.heap.size]? = some (Obj.cells #[va, vb, vc, vd] 22 (0, 0))) :
    Calls Tryd.prog 42 #[.slice (some ⟨W.heap.size, 0, none⟩) 4 4] W2 fun e w' => ∃ v', e = .returned v' ∧ SL w' w'.heap.size v' (a ++ (b ++ (c ++ d))) ∧ Below W.heap.size W w' := by
  have hll : LL W2 W2.heap.size (.slice (some ⟨W.heap.size, 0, none⟩) 4 4) [a, b, c, d] :=
    LL.lit W.heap.size [va, vb, vc, vd] [a, b, c, d] rfl (by simp) ho (fun k hk => by
      have : k = 0 ∨ k = 1 ∨ k = 2 ∨ k = 3 := by simp at hk; omega
      rcases this with rfl | rfl | rfl | rfl
      · exact ha.on hal
      · exact hb.on hal
      · exact hc.on hal
      · exact hd.on hal)
  refine (pjoin_any [a, b, c, d] _ _ hll (by simp) (by simp [Lib.lens]; omega)).mono fun e w' ⟨v', e1, e2, e3⟩ => ⟨v', e1, by simpa using e2, hal.trans (e3.mono hal.size)⟩

/-- Data as a side decrypts them for a bit of the level; none: they cannot be decrypted. -/
def decF (s : Ch) (bit : Int) (iv d : List UInt8) : Option (List UInt8) :=
  if hasB s.lvl bit = true ∧ d.length ≠ 0 then unpadL (if fitC s.enc iv d = 0 then cbD s.enc iv d else []) else some d
/-- What decrypt gives. -/
def DeP (w : World) (r : Option (List UInt8)) (e : Ending) (w' : World) : Prop := Below w.heap.size w w' ∧
  ((r = none ∧ e = .returned (.tuple #[.slice none 0 0, errV 4])) ∨ ∃ m v', r = some m ∧ e = .returned (.tuple #[v', .nilIface]) ∧ SL w' w'.heap.size v' m)
theorem fitC_le (k iv d : List UInt8) : (if fitC k iv d = 0 then cbD k iv d else []).length ≤ d.length := by
  by_cases h : fitC k iv d = 0
  · obtain ⟨h1, h2, h3⟩ := fitC_zero h
    rw [if_pos h, cbD_len k iv d h2 h3]
    exact Nat.le_refl _
  · rw [if_neg h]; simp
set_option maxRecDepth 100000 in
set_option maxHeartbeats 1600000 in
theorem pdecr_any (g : Nat) (s : Ch) (bit : Int) (iv d : List UInt8) (vi vd : Value) (w : World) (h : CH w g s) (hi : SL w w.heap.size vi iv) (hd : SL w w.heap.size vd d) (hl : d.length ≤ 2000) :
    Calls Tryd.prog 47 #[.pointer (some ⟨g, 0, none⟩), .int .i64 bit, vi, vd] w (DeP w (decF s bit iv d)) := by
  have HH := Lib.hid (phas_any g bit s w h)
  obtain ⟨A0, A1, A2, A3, A5, c0, c1, c2, c3, c5, hr, h0, _⟩ := id h
  have HC := Lib.hid (pcbd_any s.enc iv d (.slice A0 s.enc.length c0) vi vd w h0.sl hi hd (by omega))
  have hml := fitC_le s.enc iv d
  have q0 := cell_of_row _ _ 0 _ _ _ hr
  obtain ⟨Ad, cd, rfl, _, _, _⟩ := id hd
  obtain ⟨Ai, ci, rfl, _, _, _⟩ := id hi
  have HD := Lib.hid hd
  obtain ⟨R, hR⟩ : ∃ R, R = decF s bit iv d := ⟨_, rfl⟩
  have HR : Hid (R = if hasB s.lvl bit = true ∧ d.length ≠ 0 then unpadL (if fitC s.enc iv d = 0 then cbD s.enc iv d else []) else some d) := hR
  rw [← hR]
  change w.cell? ⟨g, 0, none⟩ = some (.slice A0 s.enc.length c0) at q0
  clear h hd hi hr h0 hR
  cases hB : hasB s.lvl bit with
  | false =>
    rw [hB] at HH HR
    have hRd : R = some d := by rw [HR.out, if_neg (by simp)]
    rw [hRd]
    clear hB HR hRd
    go_enter Tryd.func47, Tryd.ntmps47
    go_wp2_with (go_at_call 38; refine HH.out.mono ?_; rintro e w3 ⟨rfl, rfl⟩)
    go_ret2
    exact ⟨Below.refl _ _, .inr ⟨_, _, rfl, rfl, HD.out⟩⟩
  | true =>
    rw [hB] at HH HR
    clear hB
    by_cases hd0 : d.length = 0
    · have hRd : R = some d := by rw [HR.out, if_neg (by simp [hd0])]
      rw [hRd]
      have hz : ((d.length : Int) == 0) = true := by rw [beq_iff_eq]; omega
      clear HR hRd hd0
      go_enter Tryd.func47, Tryd.ntmps47
      go_wp2_with (go_at_call 38; refine HH.out.mono ?_; rintro e w3 ⟨rfl, rfl⟩)
      go_ret2
      exact ⟨Below.refl _ _, .inr ⟨_, _, rfl, rfl, HD.out⟩⟩
    · have hRd : R = unpadL (if fitC s.enc iv d = 0 then cbD s.enc iv d else []) := by rw [HR.out, if_pos ⟨rfl, hd0⟩]
      have hz : ((d.length : Int) == 0) = false := by rw [beq_eq_false_iff_ne]; omega
      generalize (if fitC s.enc iv d = 0 then cbD s.enc iv d else []) = y at *
      have HRD := Lib.hid hRd
      have HML := Lib.hid hml
      clear HR hd0 hRd hml
      go_enter Tryd.func47, Tryd.ntmps47
      go_wp2_with fail
      refine HH.out.mono ?_
      rintro e w3 ⟨rfl, rfl⟩
      go_wp2_with fail
      refine HC.out.mono ?_
      rintro e w4 ⟨v4, rfl, hv4, hb4⟩
      have HB4 := Lib.hid hb4
      have HV4 := Lib.hid hv4.sl
      clear hv4 hb4
      go_wp2_with fail
      refine punpad_any y v4 w4 HV4.out (by have := HML.out; omega) _ (fun m hm v' w' hs hb => ?_) (fun hm => ?_)
      · have hRm := HRD.out.trans hm
        clear hm
        go_wp2_with fail
        go_ret2
        exact ⟨HB4.out.trans (hb.mono HB4.out.size), .inr ⟨m, _, hRm, rfl, hs⟩⟩
      · have hRm := HRD.out.trans hm
        clear hm
        go_wp2_with fail
        go_ret2
        exact ⟨HB4.out, .inl ⟨hRm, rfl⟩⟩

/-- The bytes of a command ahead of its data. -/
def byI (n : Int) : UInt8 := UInt8.ofNat (n % 256).toNat
theorem byI_toNat (n : Int) : ((byI n).toNat : Int) = n % 256 := by
  unfold byI
  have h0 : 0 ≤ n % 256 := Int.emod_nonneg _ (by omega)
  have h1 : n % 256 < 256 := Int.emod_lt_of_pos _ (by omega)
  rw [UInt8.toNat_ofNat']
  omega
def hdM (x : Cm) : List UInt8 := [byI x.cla, byI x.ins, byI x.p1, byI x.p2]
/-- The MAC of a command. -/
def cmF (s : Ch) (x : Cm) (body : List UInt8) : List UInt8 := macL s.mac s.cv (hdM x ++ (putL (body.length + 8) 3 ++ (putL x.le.toNat 3 ++ body)))
def rmF (s : Ch) (sw : Int) (body : List UInt8) : List UInt8 := macL s.rmac s.cv (body ++ putL sw.toNat 2)
theorem hdM_sl (x : Cm) (W : World) (g : Nat) (hg : g < W.heap.size) (hr : W.heap[g]? = some (.cells #[.int .u8 (x.cla % 256), .int .u8 (x.ins % 256), .int .u8 (x.p1 % 256), .int .u8 (x.p2 % 256)] 5 (0, 0))) : SL W W.heap.size (.slice (some ⟨g, 0, none⟩) 4 4) (hdM x) :=
  ⟨some ⟨g, 0, none⟩, 4, rfl, by simp [hdM], by unfold maxLen; omega, fun _ => ⟨g, 0, rfl, hg, fun k hk => by
    have hk4 : k < 4 := by simpa [hdM] using hk
    have : k = 0 ∨ k = 1 ∨ k = 2 ∨ k = 3 := by omega
    rw [Nat.zero_add]
    rcases this with rfl | rfl | rfl | rfl
    · rw [cell_of_row _ _ 0 _ _ _ hr, ← byI_toNat x.cla]; rfl
    · rw [cell_of_row _ _ 1 _ _ _ hr, ← byI_toNat x.ins]; rfl
    · rw [cell_of_row _ _ 2 _ _ _ hr, ← byI_toNat x.p1]; rfl
    · rw [cell_of_row _ _ 3 _ _ _ hr, ← byI_toNat x.p2]; rfl⟩⟩
set_option maxRecDepth 100000 in
set_option maxHeartbeats 3200000 in
theorem pcmac_any (g : Nat) (s : Ch) (x : Cm) (A : Option Addr) (n k : Nat) (body : List UInt8) (vb : Value) (N : Nat) (w : World) (h : CH w g s) (hm : s.mac.length = 16) (hv : s.cv.length = 8) (hN : x.le = (N : Int)) (hN6 : N ≤ 65536) (hb : SL w w.heap.size vb body) (hl : body.length ≤ 2000) :
    Calls Tryd.prog 43 #[.pointer (some ⟨g, 0, none⟩), x.val (.slice A n k), vb] w (GiV w (cmF s x body)) := by
  have HP1 := Lib.hid fun W => pput_ok (body.length + 8) 3 W (by omega) (by omega) (by omega) (by omega)
  have HP2 := Lib.hid fun W => pput_ok N 3 W (by omega) (by omega) (by omega) (by omega)
  have hf : fitM s.mac s.cv = 0 := by unfold fitM; rw [if_neg]; omega
  have hlt := h.lt
  have HX := Lib.hid (hdM_sl x)
  obtain ⟨R, hR⟩ : ∃ R, R = cmF s x body := ⟨_, rfl⟩
  have HR : Hid (R = macL s.mac s.cv (hdM x ++ (putL (body.length + 8) 3 ++ (putL N 3 ++ body)))) := by
    show _ = _
    rw [hR]; unfold cmF; rw [hN]; rfl
  rw [← hR]
  have l4 : (hdM x).length = 4 := rfl
  have l3 := putL_length (body.length + 8) 3
  have l2 := putL_length N 3
  have HJ := Lib.hid fun (W : World) va vb' vc vd h1 h2 h3 h4 W2 h5 h6 => join4 (hdM x) (putL (body.length + 8) 3) (putL N 3) body va vb' vc vd W h1 h2 h3 h4 (by omega) (by omega) (by omega) (by omega) W2 h5 h6
  obtain ⟨A0, A1, A2, A3, A5, c0, c1, c2, c3, c5, hr, h0, h1, h2, h3, h5⟩ := id h
  have HM := Lib.hid fun (W : World) (vj : Value) (hW : Below w.heap.size w W) (hj : SL W W.heap.size vj (hdM x ++ (putL (body.length + 8) 3 ++ (putL N 3 ++ body)))) => by
    have := pmac_any s.mac s.cv _ (.slice A1 s.mac.length c1) (.slice A5 s.cv.length c5) vj W (h1.sl.on hW) (h5.sl.on hW) hj (by simp only [List.length_append]; omega)
    rw [hf, macM, if_pos hf, ← HR.out] at this
    exact this
  have HQ : Hid (∀ W, Below w.heap.size w W → W.cell? ⟨g, 1, none⟩ = some (.slice A1 s.mac.length c1) ∧ W.cell? ⟨g, 5, none⟩ = some (.slice A5 s.cv.length c5)) := fun W hW =>
    ⟨(hW.cell (p := ⟨g, 1, none⟩) hlt).trans (cell_of_row _ _ 1 _ _ _ hr), (hW.cell (p := ⟨g, 5, none⟩) hlt).trans (cell_of_row _ _ 5 _ _ _ hr)⟩
  obtain ⟨Ab, cb, rfl, _, _, _⟩ := id hb
  have HB := Lib.hid hb
  obtain ⟨cla, ins, p1, p2, data, le, long⟩ := x
  simp only at hN
  subst hN
  simp only [Cm.val] at *
  have hb1 := alloc_below w (Obj.cells #[.int .i64 cla, .int .i64 ins, .int .i64 p1, .int .i64 p2, .slice A n k, .int .i64 N, .bool long] 30)
  have hn1 := heap_alloc_new w (Obj.cells #[.int .i64 cla, .int .i64 ins, .int .i64 p1, .int .i64 p2, .slice A n k, .int .i64 N, .bool long] 30)
  have HB1 := Lib.hid hb1
  have HN1 := Lib.hid hn1
  have hlx := blk_lt hn1
  have HLX := Lib.hid hlx
  have hw8 : IntKind.wrap .i64 ((body.length : Int) + 8) = (body.length : Int) + 8 := IntWalk.i64_in _ (by omega)
  have e8 : (((body.length + 8 : Nat)) : Int) = (body.length : Int) + 8 := by omega
  rw [e8] at HP1
  clear h hr h0 h1 h2 h3 h5 hb hR hf l4 l3 l2 hb1 hn1 hm hv e8 hlx
  go_enter Tryd.func43, Tryd.ntmps43
  go_wp2_with fail
  refine (HP1.out _).mono ?_
  rintro e w3 ⟨v3, rfl, hv3, hb3⟩
  have HB3 := Lib.hid (HB1.out.trans (hb3.mono HB1.out.size))
  have hn3 := (hb3.block w.heap.size HLX.out).trans HN1.out
  have z5 := cell_of_row _ _ 5 _ _ _ hn3
  have HN3 := Lib.hid hn3
  have HV3 := Lib.hid hv3
  clear hb3 hn3 hv3
  go_wp2_with fail
  refine (HP2.out _).mono ?_
  rintro e w4 ⟨v4, rfl, hv4, hb4⟩
  have hn4 := (hb4.block w.heap.size (blk_lt HN3.out)).trans HN3.out
  have z0 := cell_of_row _ _ 0 _ _ _ hn4
  have z1 := cell_of_row _ _ 1 _ _ _ hn4
  have z2 := cell_of_row _ _ 2 _ _ _ hn4
  have z3 := cell_of_row _ _ 3 _ _ _ hn4
  have HB4 := Lib.hid (HB3.out.trans (hb4.mono HB3.out.size))
  have HV34 := Lib.hid (HV3.out.on hb4)
  have HV4 := Lib.hid hv4
  clear z5 hn4 hv4 hb4
  obtain ⟨Av3, cv3, e3, _⟩ := id HV34.out
  obtain ⟨Av4, cv4, e4, _⟩ := id HV4.out
  rw [putL_length] at e3 e4
  subst e3 e4
  go_wp2_with fail
  have hb5 := alloc_below w4 (Obj.cells #[.int .u8 (cla % 256), .int .u8 (ins % 256), .int .u8 (p1 % 256), .int .u8 (p2 % 256)] 5)
  have hn5 := heap_alloc_new w4 (Obj.cells #[.int .u8 (cla % 256), .int .u8 (ins % 256), .int .u8 (p1 % 256), .int .u8 (p2 % 256)] 5)
  have hs5 := alloc_size w4 (Obj.cells #[.int .u8 (cla % 256), .int .u8 (ins % 256), .int .u8 (p1 % 256), .int .u8 (p2 % 256)] 5)
  generalize w4.alloc (Obj.cells #[.int .u8 (cla % 256), .int .u8 (ins % 256), .int .u8 (p1 % 256), .int .u8 (p2 % 256)] 5) = W5 at *
  have hsx := HX.out W5 w4.heap.size (by omega) hn5
  have HB5 := Lib.hid (HB4.out.trans (hb5.mono HB4.out.size))
  have hx3 := HV34.out.on hb5
  have hx4 := HV4.out.on hb5
  have hxb := HB.out.on HB5.out
  have hj := HJ.out W5 _ _ _ _ hsx hx3 hx4 hxb
  have ho1 := alloc_below W5 (Obj.cells #[.slice (some ⟨w4.heap.size, 0, none⟩) 4 4, .slice Av3 3 cv3, .slice Av4 3 cv4, .slice Ab body.length cb] 22)
  have HJ1 := Lib.hid (hj _ ho1 (heap_alloc_new _ _))
  have HJ2 := Lib.hid (hj _ ho1.drew (heap_alloc_new _ _))
  obtain ⟨u1, u2⟩ := HQ.out _ HB5.out
  have hS6 : True := trivial
  clear hsx hx3 hx4 hxb hj ho1 hn5 hs5 hb5
  go_region_held3 (fun w' => w'.cell? ⟨g, 1, none⟩ = some (.slice A1 s.mac.length c1) ∧ w'.cell? ⟨g, 5, none⟩ = some (.slice A5 s.cv.length c5))
    (first | (go_keep; done) | exact hS6)
    (first
      | (go_at_call 42; (with_reducible refine HJ1.out.mono ?_); rintro e w6 ⟨v6, rfl, hv6, hb6⟩; have hb7 := HB5.out.trans (hb6.mono HB5.out.size); have hS6 := HQ.out _ hb7; have hM6 := HM.out _ _ hb7 hv6; have hM7 := HM.out _ _ hb7.drew (hv6.on (Below.refl _ _).drew))
      | (go_at_call 42; (with_reducible refine HJ2.out.mono ?_); rintro e w6 ⟨v6, rfl, hv6, hb6⟩; have hb7 := HB5.out.trans (hb6.mono HB5.out.size); have hS6 := HQ.out _ hb7; have hM6 := HM.out _ _ hb7 hv6; have hM7 := HM.out _ _ hb7.drew (hv6.on (Below.refl _ _).drew))
      | (go_at_call 59; (with_reducible refine hM6.mono ?_); rintro e w8 ⟨v8, rfl, hv8, hb8⟩; have hb9 := hb7.trans (hb8.mono hb7.size); have hS6 := HQ.out _ hb9)
      | (go_at_call 59; (with_reducible refine hM7.mono ?_); rintro e w8 ⟨v8, rfl, hv8, hb8⟩; have hb9 := hb7.drew.trans (hb8.mono hb7.size); have hS6 := HQ.out _ hb9))
  go_wp2_with fail
  go_ret
  exact ⟨_, rfl, by first | exact hv8 | exact hv8.on (Below.refl _ _).drew, by first | exact hb9 | exact hb9.drew⟩
end Go.Proofs.YtdalcldilmmgmaaDoor
