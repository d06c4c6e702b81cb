/-
  The law of changed commands and responses.
-/
import Derived.Test.YtdalcldilmmgmaaDoorMgj
namespace Go.Proofs.YtdalcldilmmgmaaDoor
set_option linter.unusedVariables false
set_option linter.unusedSimpArgs false
open Go.RowKit

set_option maxRecDepth 100000 in
set_option maxHeartbeats 6400000 in
theorem law_only_ins (s : Ss) (m : List UInt8) (a : Cm) (r : Rs) (at' : Nat) (v0 v1 v2 v3 vm : Value) (Aa Ar : Option Addr) (ka kr : Nat) (w : World) (h0 : SL w w.heap.size v0 s.enc) (h1 : SL w w.heap.size v1 s.mac) (h2 : SL w w.heap.size v2 s.rmac) (h3 : SL w w.heap.size v3 s.dat) (hm : SL w w.heap.size vm m) (ha : SL w w.heap.size (.slice Aa a.data.length ka) a.data) (hr : SL w w.heap.size (.slice Ar r.data.length kr) r.data)
    (ht : ET w) (hla : -9223372036854775808 ≤ a.le ∧ a.le ≤ 9223372036854775807) (hat : at' < 65536) (hcls : ¬ at' % (8 * (onX (Ch.new s m) a).data.length + 24) < 8 * (onX (Ch.new s m) a).data.length ∧ at' % (8 * (onX (Ch.new s m) a).data.length + 24) % 3 = 2) :
    Calls Tryd.prog 5 #[s.val v0 v1 v2 v3, vm, .agg #[.int .i64 a.cla, .int .i64 a.ins, .int .i64 a.p1, .int .i64 a.p2, .slice Aa a.data.length ka, .int .i64 a.le, .bool a.long, .slice Ar r.data.length kr, .int .i64 r.sw, .int .u16 (at' : Int)]] w fun e w' => e = .returned (.bool true) ∧ Below w.heap.size w w' := by
  obtain ⟨A0, c0, rfl, _, _, _⟩ := id h0
  obtain ⟨A1, c1, rfl, _, _, _⟩ := id h1
  obtain ⟨A2, c2, rfl, _, _, _⟩ := id h2
  obtain ⟨A3, c3, rfl, _, _, _⟩ := id h3
  obtain ⟨Am, cm, rfl, hml, _, _⟩ := id hm
  have HPR := Lib.hid fun W (hW : Below w.heap.size w W) => pair_any s m _ _ _ _ _ W (h0.on hW) (h1.on hW) (h2.on hW) (h3.on hW) (hm.on hW)
  have HNW := Lib.hid fun W W2 (hW : Below w.heap.size w W) (hb : Below W.heap.size W W2) hok => new_ok s m (.slice A0 s.enc.length c0) (.slice A1 s.mac.length c1) (.slice A2 s.rmac.length c2) (.slice A3 s.dat.length c3) (.slice Am m.length cm) W W2 hb (h0.on hW) (h1.on hW) (h2.on hW) (h3.on hW) (hm.on hW) hok
  have HXA := Lib.hid ha
  have HXR := Lib.hid hr
  have HET := Lib.hid ht
  have HLA := Lib.hid hla
  have HAT := Lib.hid hat
  unfold Ss.val at *
  have HRW : Hid (Rw w ((w.alloc (Obj.cells #[.slice A0 s.enc.length c0, .slice A1 s.mac.length c1, .slice A2 s.rmac.length c2, .slice A3 s.dat.length c3, .int .i64 s.lvl] 24)).alloc (Obj.cells #[.int .i64 a.cla, .int .i64 a.ins, .int .i64 a.p1, .int .i64 a.p2, .slice Aa a.data.length ka, .int .i64 a.le, .bool a.long, .slice Ar r.data.length kr, .int .i64 r.sw, .int .u16 (at' : Int)] 51)) (Obj.cells #[.slice A0 s.enc.length c0, .slice A1 s.mac.length c1, .slice A2 s.rmac.length c2, .slice A3 s.dat.length c3, .int .i64 s.lvl] 24) (Obj.cells #[.int .i64 a.cla, .int .i64 a.ins, .int .i64 a.p1, .int .i64 a.p2, .slice Aa a.data.length ka, .int .i64 a.le, .bool a.long, .slice Ar r.data.length kr, .int .i64 r.sw, .int .u16 (at' : Int)] 51)) := ⟨heap_alloc2_old .., heap2_new .., alloc2_below ..⟩
  clear h0 h1 h2 h3 hm ha hr ht hla hat
  by_cases hl6 : 600 < a.data.length
  · have hi : (600 : Int) < (a.data.length : Int) := by omega
    go_enter Tryd.func5, Tryd.ntmps5
    go_wp2_with fail
    go_ret
    exact ⟨rfl, HRW.out.b⟩
  have hi : ¬ (600 : Int) < (a.data.length : Int) := by omega
  by_cases hl7 : 600 < r.data.length
  · have hi2 : (600 : Int) < (r.data.length : Int) := by omega
    go_enter Tryd.func5, Tryd.ntmps5
    go_wp2_with fail
    go_ret
    exact ⟨rfl, HRW.out.b⟩
  have hi2 : ¬ (600 : Int) < (r.data.length : Int) := by omega
  by_cases hm1 : 100 < m.length
  · have hj : (100 : Int) < (m.length : Int) := by omega
    go_enter Tryd.func5, Tryd.ntmps5
    go_wp2_with fail
    go_ret
    exact ⟨rfl, HRW.out.b⟩
  have hj : ¬ (100 : Int) < (m.length : Int) := by omega
  go_enter Tryd.func5, Tryd.ntmps5
  go_wp2_with fail
  refine (HPR.out _ HRW.out.b).mono ?_
  rintro e w3 ⟨hb3, ⟨_, rfl⟩ | ⟨hpa, g1, g2, hg1, hg2, hne, rfl, hc1, hc2⟩⟩
  · have HRW3 := Lib.hid (HRW.out.on hb3)
    clear hb3
    go_wp2_with fail
    go_ret
    exact ⟨rfl, HRW3.out.b⟩
  have HRW3 := Lib.hid (HRW.out.on hb3)
  have HC1 := Lib.hid hc1
  have HC2 := Lib.hid hc2
  have HG1 : Hid (w.heap.size + 1 < g1) := Nat.lt_of_lt_of_le HRW.out.lt hg1
  have HG2 : Hid (w.heap.size + 1 < g2) := Nat.lt_of_lt_of_le HRW.out.lt hg2
  have HNE := Lib.hid hne
  have HOK := Lib.hid (pa_ok hpa)
  have HSO : Hid ((s.ok && decide (m.length = 8)) = true) := by
    have := hpa
    unfold paB at this
    simp only [Bool.and_eq_true] at this ⊢
    exact this.1
  have m0 := cell_of_row _ _ 0 _ _ _ HRW3.out.r2
  have m1 := cell_of_row _ _ 1 _ _ _ HRW3.out.r2
  have m2 := cell_of_row _ _ 2 _ _ _ HRW3.out.r2
  have m3 := cell_of_row _ _ 3 _ _ _ HRW3.out.r2
  have m4 := cell_of_row _ _ 4 _ _ _ HRW3.out.r2
  have m5 := cell_of_row _ _ 5 _ _ _ HRW3.out.r2
  have m6 := cell_of_row _ _ 6 _ _ _ HRW3.out.r2
  clear hb3 hc1 hc2 hg1 hg2 hne hpa HPR
  by_cases hE : wrE (Ch.new s m) a = 0
  case neg =>
    have hw := pWrap_no g1 (Ch.new s m) a Aa ka 0 w3 HC1.out (ET.on HET.out HRW3.out.b) HOK.out.1 HLA.out hE
    have hnz : (wrE (Ch.new s m) a != 0) = true := by rw [bne_iff_ne]; exact hE
    simp only [Cm.val, Cm.zero] at hw
    have HW := Lib.hid hw
    clear hw hE
    go_wp2_with fail
    refine HW.out.mono ?_
    rintro e w4 ⟨rfl, hb4⟩
    have HRW4 := Lib.hid ((HRW3.out.on hb4).al (Obj.cells #[.int .i64 0, .int .i64 0, .int .i64 0, .int .i64 0, .slice none 0 0, .int .i64 0, .bool false] 30))
    clear hb4
    go_wp2_with fail
    refine (awake_any _).mono ?_
    rintro e w5 ⟨rfl, hb5⟩
    have HRW5 := Lib.hid (HRW4.out.on hb5)
    clear hb5
    go_wp2_with fail
    go_ret
    exact ⟨rfl, HRW5.out.b⟩
  have HE := Lib.hid hE
  clear hE
  have hw := pWrap_mac g1 (Ch.new s m) a Aa ka 0 w3 HC1.out HOK.out.1 (by omega) HOK.out.2 HE.out (HXA.out.on HRW3.out.b) (by omega)
  obtain ⟨Y, hY⟩ : ∃ Y, Y = onX (Ch.new s m) a := ⟨_, rfl⟩
  have hY2 : wrY (Ch.new s m) a 0 = Y := hY.symm
  rw [hY2] at hw
  have HYD := Lib.hid hY
  simp only [Cm.val] at hw
  have HW := Lib.hid hw
  clear hw hY hY2
  go_wp2_with fail
  refine HW.out.mono ?_
  rintro e w5 ⟨v5, he, hv5, hc5, hk5⟩
  obtain ⟨A5, c5, rfl, _, _, _⟩ := id hv5
  simp only [Cm.val] at he
  subst he
  have HRW5 := Lib.hid (HRW3.out.kb hk5 HG1.out)
  have HV5 := Lib.hid hv5
  have HC15 := Lib.hid hc5
  have HC25 := Lib.hid (HC1.out.other HC2.out HNE.out hk5)
  have m9 := cell_of_row _ _ 9 _ _ _ HRW5.out.r2
  have z5 := HRW5.out.lt
  have x1 : w.heap.size + 1 ≠ w5.heap.size := by omega
  have x2 : w5.heap.size ≠ w.heap.size + 1 := by omega
  have x3 : w.heap.size < w5.heap.size := by omega
  clear hv5 hc5 hk5 HW m0 m1 m2 m3 m4 m5 m6
  have hyl : Y.data.length ≤ 616 := by rw [HYD.out]; have := onX_le (Ch.new s m) a; omega
  have hat := HAT.out
  obtain ⟨n, hn⟩ : ∃ n : Nat, n = at' % (8 * Y.data.length + 24) := ⟨_, rfl⟩
  have hn24 : n < 8 * Y.data.length + 24 := by rw [hn]; exact Nat.mod_lt _ (by omega)
  have en1 : (at' : Int) % (8 * (Y.data.length : Int) + 24) = (n : Int) := by
    have h1 : ((8 * Y.data.length + 24 : Nat) : Int) = 8 * (Y.data.length : Int) + 24 := by omega
    rw [hn, Int.natCast_emod, h1]
  have en2 : (at' : Int).tmod (8 * (Y.data.length : Int) + 24) = (n : Int) := by rw [Int.tmod_eq_emod_of_nonneg (by omega)]; exact en1
  have HO7 : Hid (∀ W, W = (w5.alloc (Obj.cells #[.int .i64 Y.cla, .int .i64 Y.ins, .int .i64 Y.p1, .int .i64 Y.p2, .slice A5 Y.data.length c5, .int .i64 Y.le, .bool Y.long] 30)).alloc (Obj.cells #[.int .i64 Y.cla, .int .i64 Y.ins, .int .i64 Y.p1, .int .i64 Y.p2, .slice A5 Y.data.length c5, .int .i64 Y.le, .bool Y.long] 30) → Oy w W w5.heap.size g1 g2 (Obj.cells #[.slice A0 s.enc.length c0, .slice A1 s.mac.length c1, .slice A2 s.rmac.length c2, .slice A3 s.dat.length c3, .int .i64 s.lvl] 24) (Obj.cells #[.int .i64 a.cla, .int .i64 a.ins, .int .i64 a.p1, .int .i64 a.p2, .slice Aa a.data.length ka, .int .i64 a.le, .bool a.long, .slice Ar r.data.length kr, .int .i64 r.sw, .int .u16 (at' : Int)] 51) Y Y A5 c5 A5 c5 (onS (Ch.new s m) a) (Ch.new s m)) := by
    intro W hW
    subst hW
    have hb7 := alloc2_below w5 (Obj.cells #[.int .i64 Y.cla, .int .i64 Y.ins, .int .i64 Y.p1, .int .i64 Y.p2, .slice A5 Y.data.length c5, .int .i64 Y.le, .bool Y.long] 30) (Obj.cells #[.int .i64 Y.cla, .int .i64 Y.ins, .int .i64 Y.p1, .int .i64 Y.p2, .slice A5 Y.data.length c5, .int .i64 Y.le, .bool Y.long] 30)
    have e1 : (Ch.new s m).next Y.data = onS (Ch.new s m) a := by rw [HYD.out]; rfl
    refine ⟨HRW5.out.b.trans (hb7.mono HRW5.out.b.size), (hb7.block _ (blk_lt HRW5.out.r1)).trans HRW5.out.r1, (hb7.block _ (blk_lt HRW5.out.r2)).trans HRW5.out.r2, heap_alloc2_old .., heap2_new .., HV5.out.on hb7, HV5.out.on hb7, ?_, HC25.out.below hb7⟩
    rw [← e1]
    exact HC15.out.below hb7
  have hpb : Hid ((0 ≤ Y.p1 ∧ Y.p1 ≤ 255) ∧ (0 ≤ Y.p2 ∧ Y.p2 ≤ 255) ∧ (0 ≤ Y.ins ∧ Y.ins ≤ 255)) := by
    have h1 := (chkC_zero (clE_zero (wrE_zero HE.out).1).2.1).1
    unfold bytesC at h1
    simp only [Bool.and_eq_true] at h1
    rw [HYD.out]
    exact ⟨isB_yes h1.1.2, isB_yes h1.2, isB_yes h1.1.1.2⟩
  have HLT5 : Hid (g1 < w5.heap.size ∧ g2 < w5.heap.size) := ⟨HC15.out.lt, HC25.out.lt⟩
  have HSX := Lib.hid (fun g S A k W h hg hv ht => shut_any g S Y A k W h hg hv ht (by rw [HYD.out]; exact HLA.out))
  have HON := Lib.hid (fun g A k W (h : CH W g (Ch.new s m)) hd => on_first (S := Ch.new s m) (a := a) HOK.out.1 HOK.out.2 HE.out (by omega) g A k W h hd)
  have HBA := Lib.hid (fun (bad : Cm) (h1 : bad.cla = Y.cla) (h2 : bad.le = Y.le) (h3 : bad.data.length = Y.data.length) (hM : bad.data.drop (bad.data.length - 8) ≠ cmF (Ch.new s m) bad (bad.data.take (bad.data.length - 8))) => bad_any (S := Ch.new s m) (a := a) (bad := bad) HOK.out.1 HOK.out.2 HE.out (by omega) (by rw [h1, HYD.out]) (by rw [h2, HYD.out]; rfl) (by rw [h3, HYD.out]) hM)
  have HBH := Lib.hid (fun (j : Nat) (v : UInt8) (hj : j < 4) (bad : Cm) (hd : bad.data = Y.data) (hle : bad.le = Y.le) (hh : hdM bad = (hdM Y).set j v) (h : (hdM Y)[j]? ≠ some v) => bad_head (S := Ch.new s m) (a := a) HOK.out.1 HE.out (by omega) j v hj bad (by rw [hd, HYD.out]) (by rw [hle, HYD.out]) (by rw [hh, HYD.out]) (by rw [← HYD.out]; exact h))
  simp only [← HYD.out] at HON
  have hcl : ¬ n < 8 * Y.data.length ∧ n % 3 = 2 := by rw [hn, HYD.out]; exact hcls
  clear hcls
  have hd1 : ¬ ((n : Int) < 8 * (Y.data.length : Int)) := by omega
  have h31 : (n : Int) % 3 = 2 := by omega
  have h32 : (n : Int).tmod 3 = 2 := by rw [Int.tmod_eq_emod_of_nonneg (by omega)]; exact h31
  obtain ⟨k, hk⟩ : ∃ k : Nat, k = n % 4 := ⟨_, rfl⟩
  have hk8 : k < 8 := by omega
  have ek1 : (n : Int) % 4 = (k : Int) := by omega
  have ek2 : (n : Int).tmod 4 = (k : Int) := by rw [Int.tmod_eq_emod_of_nonneg (by omega)]; exact ek1
  clear hn hk
  go_wp2_with fail
  have ho7 := HO7.out _ rfl
  generalize (w5.alloc (Obj.cells #[.int .i64 Y.cla, .int .i64 Y.ins, .int .i64 Y.p1, .int .i64 Y.p2, .slice A5 Y.data.length c5, .int .i64 Y.le, .bool Y.long] 30)).alloc (Obj.cells #[.int .i64 Y.cla, .int .i64 Y.ins, .int .i64 Y.p1, .int .i64 Y.p2, .slice A5 Y.data.length c5, .int .i64 Y.le, .bool Y.long] 30) = w7 at *
  obtain ⟨⟨q0, q1, q2, q3, q4, q5, q6⟩, ⟨f0, f1, f2, f3, f4, f5, f6⟩⟩ := cells7 ho7.rw
  obtain ⟨⟨t0, t1, t2, t3, t4, t5, t6⟩, ⟨k0, k1, k2, k3, k4, k5, k6⟩⟩ := cells7 ho7.rb
  have ne1 : w5.heap.size ≠ w5.heap.size + 1 := by omega
  have ne2 : w5.heap.size + 1 ≠ w5.heap.size := by omega
  obtain ⟨pv, hpv⟩ : ∃ pv, pv = bits .xor .i64 Y.ins (IntKind.i64.wrap ((2 : Int) ^ k)) := ⟨_, rfl⟩
  have hbm := HBH.out 1 (byI pv) (by omega) ⟨Y.cla, pv, Y.p1, Y.p2, Y.data, Y.le, Y.long⟩ rfl rfl rfl (by
    show some (byI Y.ins) ≠ some (byI pv)
    intro e
    injection e with e
    rw [hpv] at e
    exact head_byte hpb.out.2.2 hk8 e.symm)
  have HBAD := Lib.hid (HBA.out ⟨Y.cla, pv, Y.p1, Y.p2, Y.data, Y.le, Y.long⟩ rfl rfl rfl hbm)
  have HO8 := Lib.hid ((ho7.st (bad2 := ⟨Y.cla, pv, Y.p1, Y.p2, Y.data, Y.le, Y.long⟩) 1 (.int .i64 pv) HRW5.out.lt (by have := HLT5.out; omega) (by have := HLT5.out; omega) rfl rfl).dr)
  have hS6 : True := trivial
  clear hbm ho7
  go_region_held3 (fun W : World => W.cell? ⟨w5.heap.size, 1, none⟩ = some (.int .i64 Y.ins))
    (first | (go_keep; done) | exact hS6)
    (first | fail "none")
  rw [← hpv]
  generalize (w7.setCell ⟨w5.heap.size + 1, 1, none⟩ (.int .i64 pv)).drew = w8 at *
  obtain ⟨bad, hbad⟩ : ∃ bad : Cm, bad = ⟨Y.cla, pv, Y.p1, Y.p2, Y.data, Y.le, Y.long⟩ := ⟨_, rfl⟩
  rw [← hbad] at HBAD HO8
  clear hpv hbad
  clear q0 q1 q2 q3 q4 q5 q6 f0 f1 f2 f3 f4 f5 f6 t0 t1 t2 t3 t4 t5 t6 k0 k1 k2 k3 k4 k5 k6 ne1 ne2 HO7 HBH HBA m9 z5 x1 x2 x3 HRW5 HV5 HC15 HC25
  obtain ⟨t0, t1, t2, t3, t4⟩ := row5 HO8.out.rs
  go_wp2_with fail
  refine (HNW.out w8 w8 HO8.out.b (Below.refl _ _) HSO.out).mono ?_
  rintro e w9 ⟨g3, hg3, rfl, hc3, hb9⟩
  have HO9 := Lib.hid (HO8.out.on hb9)
  have HC3 := Lib.hid hc3
  have HG3 : Hid (w.heap.size + 1 < g3 ∧ w5.heap.size ≠ g3 ∧ w5.heap.size + 1 ≠ g3 ∧ g3 ≠ g1 ∧ g3 ≠ g2) := by
    have z1 := blk_lt HO8.out.rx
    have z3 := blk_lt HO8.out.rb
    have z4 := HO8.out.c1.lt
    have z5 := HO8.out.c2.lt
    exact ⟨by omega, by omega, by omega, by omega, by omega⟩
  clear hb9 hc3 hg3 HNW t0 t1 t2 t3 t4
  obtain ⟨⟨q0, q1, q2, q3, q4, q5, q6⟩, ⟨f0, f1, f2, f3, f4, f5, f6⟩⟩ := cells7 HO9.out.rb
  go_wp2_with fail
  have hu := HBAD.out g3 _ _ _ HC3.out (ET.on HET.out HO9.out.b) HO9.out.sb
  simp only [Cm.val, Cm.zero] at hu
  refine hu.mono ?_
  rintro e w10 ⟨E, hE0, rfl, hc10, hk10⟩
  clear hu
  have HO10 := Lib.hid (HO9.out.k3 HC3.out hk10 HG3.out.1 HG3.out.2.1 HG3.out.2.2.1 HG3.out.2.2.2.1 HG3.out.2.2.2.2)
  have HO11 := Lib.hid (HO10.out.al (Obj.cells #[.int .i64 0, .int .i64 0, .int .i64 0, .int .i64 0, .slice none 0 0, .int .i64 0, .bool false] 30))
  have HC11 := Lib.hid (hc10.below (alloc_below w10 (Obj.cells #[.int .i64 0, .int .i64 0, .int .i64 0, .int .i64 0, .slice none 0 0, .int .i64 0, .bool false] 30)))
  have z2 : w5.heap.size < w10.heap.size := blk_lt HO10.out.rw
  have z3 : w5.heap.size ≠ w10.heap.size := by omega
  have z4 : w10.heap.size ≠ w5.heap.size := by omega
  clear hc10 hk10 q0 q1 q2 q3 q4 q5 q6 f0 f1 f2 f3 f4 f5 f6 HBAD HC3
  obtain ⟨⟨q0, q1, q2, q3, q4, q5, q6⟩, ⟨f0, f1, f2, f3, f4, f5, f6⟩⟩ := cells7 HO10.out.rw
  go_wp2_with fail
  have hs := HSX.out g3 (Ch.new s m) A5 c5 _ HC11.out (by have := HG3.out.1; omega) HOK.out.1.cv (ET.on HET.out HO11.out.b)
  simp only [Cm.val] at hs
  refine hs.mono ?_
  rintro e w12 ⟨rfl, hc12, hk12⟩
  clear hs
  have HO12 := Lib.hid (HO11.out.k3 HC11.out hk12 HG3.out.1 HG3.out.2.1 HG3.out.2.2.1 HG3.out.2.2.2.1 HG3.out.2.2.2.2)
  clear hc12 hk12 q0 q1 q2 q3 q4 q5 q6 f0 f1 f2 f3 f4 f5 f6 HC11 z2 z3 z4
  obtain ⟨⟨q0, q1, q2, q3, q4, q5, q6⟩, ⟨f0, f1, f2, f3, f4, f5, f6⟩⟩ := cells7 HO12.out.rw
  go_wp2_with fail
  have hn := HON.out g2 _ _ _ HO12.out.c2 HO12.out.sw
  simp only [Cm.val] at hn
  refine hn.mono ?_
  rintro e w13 ⟨y, Ay, cy, rfl, hc13, hk13⟩
  clear hn
  have HGX : Hid (w5.heap.size ≠ g2 ∧ w5.heap.size + 1 ≠ g2 ∧ w5.heap.size ≠ g1 ∧ w5.heap.size + 1 ≠ g1) := by have := HLT5.out; exact ⟨by omega, by omega, by omega, by omega⟩
  have HO13 := Lib.hid (HO12.out.k2 hk13 hc13 HG2.out HGX.out.1 HGX.out.2.1 (Ne.symm HNE.out))
  clear hc13 hk13 q0 q1 q2 q3 q4 q5 q6 f0 f1 f2 f3 f4 f5 f6
  have m7 := cell_of_row _ _ 7 _ _ _ HO13.out.rx
  have m8 := cell_of_row _ _ 8 _ _ _ HO13.out.rx
  change w13.cell? ⟨w.heap.size + 1, 7, none⟩ = some (.slice Ar r.data.length kr) at m7
  change w13.cell? ⟨w.heap.size + 1, 8, none⟩ = some (.int .i64 r.sw) at m8
  go_wp2_with fail
  have HO1 := Lib.hid (onS_ok HOK.out.1 a)
  have t4 := (row5 HO13.out.rs).2.2.2.2
  have m9 := cell_of_row _ _ 9 _ _ _ HO13.out.rx
  have z2 := blk_lt HO13.out.rx
  have z3 : w.heap.size + 1 ≠ w13.heap.size := by omega
  have z4 : w13.heap.size ≠ w.heap.size + 1 := by omega
  have z5 : w.heap.size < w13.heap.size := by omega
  by_cases hK : ckE (onS (Ch.new s m) a) r = 0
  case neg =>
    have hw := as_bad HO1.out hK g2 Ar r.data.length kr w13 HO13.out.c2 (ET.on HET.out HO13.out.b)
    have hnz : (ckE (onS (Ch.new s m) a) r != 0) = true := by rw [bne_iff_ne]; exact hK
    simp only [Rs.val] at hw
    refine hw.mono ?_
    rintro e w14 ⟨rfl, hb14⟩
    have HO14 := Lib.hid ((HO13.out.on hb14).al (Obj.cells #[.slice none 0 0, .int .i64 0] 32))
    clear hb14 hw hK z2 z3 z4 z5 m7 m8 m9 t4
    go_wp2_with fail
    refine (awake_any _).mono ?_
    rintro e w15 ⟨rfl, hb15⟩
    have HO15 := Lib.hid (HO14.out.on hb15)
    clear hb15
    go_wp2_with fail
    go_ret
    exact ⟨rfl, HO15.out.b⟩
  have hw := as_seal HO1.out (by omega) hK (by omega) g2 Ar kr w13 HO13.out.c2 ((HXR.out.on HO13.out.b))
  obtain ⟨V, hV⟩ : ∃ V, V = asY (onS (Ch.new s m) a) r 1 := ⟨_, rfl⟩
  rw [← hV] at hw
  simp only [Rs.val] at hw
  refine hw.mono ?_
  rintro e w14 ⟨v14, he, hv14, hc14, hk14⟩
  clear hw
  obtain ⟨A14, c14, rfl, _, _, _⟩ := id hv14
  simp only [Rs.val] at he
  subst he
  have HVD := Lib.hid hV
  have HKZ := Lib.hid hK
  have HO14 := Lib.hid (HO13.out.k2 hk14 hc14 HG2.out HGX.out.1 HGX.out.2.1 (Ne.symm HNE.out))
  have HV14 := Lib.hid hv14
  clear hv14 hc14 hk14 hV hK m7 m8 m9 t4 z2 z3 z4 z5
  have t4 := (row5 HO14.out.rs).2.2.2.2
  have m9 := cell_of_row _ _ 9 _ _ _ HO14.out.rx
  change w14.cell? ⟨w.heap.size + 1, 9, none⟩ = some (.int .u16 (at' : Int)) at m9
  have z2 := blk_lt HO14.out.rx
  have z3 : w.heap.size + 1 ≠ w14.heap.size := by omega
  have z4 : w14.heap.size ≠ w.heap.size + 1 := by omega
  have z5 : w.heap.size < w14.heap.size := by omega
  have z6 : w.heap.size ≠ w14.heap.size := by omega
  have z7 : w14.heap.size ≠ w.heap.size := by omega
  cases hq : hasB s.lvl 16 with
  | false =>
    have hqb : (bits .and .i64 s.lvl 16 != 0) = false := hq
    have hqe : (bits .and .i64 s.lvl 16 == 0) = true := by rw [bne] at hqb; simpa using hqb
    have HO15 := Lib.hid (HO14.out.al (Obj.cells #[.slice A14 V.data.length c14, .int .i64 V.sw] 32))
    go_wp2_with fail
    refine (awake_any _).mono ?_
    rintro e w16 ⟨rfl, hb16⟩
    have HO16 := Lib.hid (HO15.out.on hb16)
    clear hb16
    go_wp2_with fail
    go_ret
    exact ⟨rfl, HO16.out.b⟩
  | true =>
    have hqb : (bits .and .i64 s.lvl 16 != 0) = true := hq
    have hqe : (bits .and .i64 s.lvl 16 == 0) = false := by rw [bne] at hqb; simpa using hqb
    have hVY : V = seY (onS (Ch.new s m) a) r 1 := by
      rw [HVD.out]
      unfold asY
      rw [if_pos (show hasB (onS (Ch.new s m) a).lvl 16 = true from hq)]
    have hVl : V.data.length = (seB (onS (Ch.new s m) a) r 1).length + 8 := by rw [hVY]; exact seY_len _ _ _
    have hVb : V.data.length ≤ 616 := by have := seB_le (onS (Ch.new s m) a) r 1; omega
    obtain ⟨k2, hk2⟩ : ∃ k2 : Nat, k2 = at' % (8 * V.data.length + 16) := ⟨_, rfl⟩
    have hk16 : k2 < 8 * V.data.length + 16 := by rw [hk2]; exact Nat.mod_lt _ (by omega)
    have ek3 : (at' : Int) % (8 * (V.data.length : Int) + 16) = (k2 : Int) := by
      have h1 : ((8 * V.data.length + 16 : Nat) : Int) = 8 * (V.data.length : Int) + 16 := by omega
      rw [hk2, Int.natCast_emod, h1]
    have ek4 : (at' : Int).tmod (8 * (V.data.length : Int) + 16) = (k2 : Int) := by rw [Int.tmod_eq_emod_of_nonneg (by omega)]; exact ek3
    have HVY := Lib.hid hVY
    have HVL := Lib.hid hVl
    clear hVY hVl hk2
    by_cases hkd : k2 < 8 * V.data.length
    · have hkdI : (k2 : Int) < 8 * (V.data.length : Int) := by omega
      have hz15 : Oz w (w14.alloc (Obj.cells #[.slice A14 V.data.length c14, .int .i64 V.sw] 32)) g1 (Obj.cells #[.int .i64 a.cla, .int .i64 a.ins, .int .i64 a.p1, .int .i64 a.p2, .slice Aa a.data.length ka, .int .i64 a.le, .bool a.long, .slice Ar r.data.length kr, .int .i64 r.sw, .int .u16 (at' : Int)] 51) w14.heap.size V A14 c14 (onS (Ch.new s m) a) :=
        ⟨(HO14.out.al _).b, (HO14.out.al _).rx, heap_alloc_new w14 _, HV14.out.on (alloc_below w14 _), (HO14.out.al _).c1⟩
      have HZ15 := Lib.hid hz15
      have HMR : Hid (0 < V.data.length → ∃ b o, A14 = some ⟨b, o, none⟩ ∧ ∀ k, k < V.data.length → ((w14.alloc (Obj.cells #[.slice A14 V.data.length c14, .int .i64 V.sw] 32)).alloc (.cells #[] 5)).cell? ⟨b, o + k, none⟩ = some (.int .u8 ((V.data.getD k 0).toNat : Int))) := fun hp => by
        obtain ⟨A', c', e', _, _, hrd⟩ := (HZ15.out.al (.cells #[] 5)).sr
        injection e' with e1 e2 e3
        subst e1
        obtain ⟨b, o, hA, _, hc⟩ := hrd hp
        exact ⟨b, o, hA, hc⟩
      clear hz15
      have HOBM : Hid (OB ((w14.alloc (Obj.cells #[.slice A14 V.data.length c14, .int .i64 V.sw] 32)).alloc (.cells #[] 5)) (w14.heap.size + 1) (.slice (some ⟨w14.heap.size + 1, 0, none⟩) 0 0) []) := by
        have := OB.made (w14.alloc (Obj.cells #[.slice A14 V.data.length c14, .int .i64 V.sw] 32))
        rw [alloc_size] at this
        exact this
      have HLEV : Hid (V.data.length ≤ 616) := hVb
      have HSZ : Hid (w14.heap.size + 1 ≤ ((w14.alloc (Obj.cells #[.slice A14 V.data.length c14, .int .i64 V.sw] 32)).alloc (.cells #[] 5)).heap.size) := by show _ ≤ _; rw [alloc_size, alloc_size]; omega
      go_wp2_with (at_builtin; refine wpList_appS rfl (.tmp 191) (.tmp 193) rfl ((w14.alloc (Obj.cells #[.slice A14 V.data.length c14, .int .i64 V.sw] 32)).alloc (.cells #[] 5)) (w14.heap.size + 1) (.slice (some ⟨w14.heap.size + 1, 0, none⟩) 0 0) [] V.data A14 c14 rfl rfl (Below.refl _ _) HOBM.out HMR.out (by have := HLEV.out; simp; omega) HSZ.out ?_; intro va wa howna hba; rw [List.nil_append] at howna; rcases howna.2 with ⟨_, hza⟩ | ⟨ga, capa, cura, rfl, _, _, _, _, _, _⟩; (exfalso; have := HVL.out; rw [hza] at this; omega); have hga := howna.base_le; have hrra := (hba.block w14.heap.size (by omega)).trans (HZ15.out.al (.cells #[] 5)).rr; obtain ⟨⟨p0, p1⟩, r0, r1⟩ := cells2 hrra)
      obtain ⟨j, hj⟩ : ∃ j : Nat, j = k2 / 8 := ⟨_, rfl⟩
      obtain ⟨kk, hkk⟩ : ∃ kk : Nat, kk = k2 % 8 := ⟨_, rfl⟩
      have hkk8 : kk < 8 := by omega
      have hjl : j < V.data.length := by omega
      have d1 : (k2 : Int) / 8 = (j : Int) := by omega
      have d2 : (k2 : Int).tdiv 8 = (j : Int) := by rw [Int.tdiv_eq_ediv_of_nonneg (by omega)]; exact d1
      have d3 : (k2 : Int) % 8 = (kk : Int) := by omega
      have d4 : (k2 : Int).tmod 8 = (kk : Int) := by rw [Int.tmod_eq_emod_of_nonneg (by omega)]; exact d3
      have hlta : w14.heap.size < ga := by omega
      clear hj hkk
      have hr17 := heap_setCell_same _ w14.heap.size 0 _ _ (.slice (some ⟨ga, 0, none⟩) V.data.length capa) hrra
      have own17 : OB (wa.setCell ⟨w14.heap.size, 0, none⟩ (.slice (some ⟨ga, 0, none⟩) V.data.length capa)) (w14.heap.size + 1) (.slice (some ⟨ga, 0, none⟩) V.data.length capa) V.data := howna.aside (by omega)
      have hbl : Below w14.heap.size w14 (wa.setCell ⟨w14.heap.size, 0, none⟩ (.slice (some ⟨ga, 0, none⟩) V.data.length capa)) :=
        (((alloc2_below w14 _ _).trans (hba.mono (Nat.le_succ _))).setCell (p := ⟨w14.heap.size, 0, none⟩) (Nat.le_refl _) _)
      generalize wa.setCell ⟨w14.heap.size, 0, none⟩ (.slice (some ⟨ga, 0, none⟩) V.data.length capa) = wb at *
      have xs0 : wb.drew.cell? ⟨w14.heap.size, 0, none⟩ = some (.slice (some ⟨ga, 0, none⟩) V.data.length capa) := cell_of_row _ _ 0 _ _ _ hr17
      have xs1 : wb.drew.cell? ⟨ga, j, none⟩ = some (.int .u8 ((V.data.getD j 0).toNat : Int)) := own17.cellAt j hjl
      have ys1 : wb.drew.frozen? ⟨ga, j, none⟩ = false := own17.frozenAt j
      have hy0 : V.data[j]? = some (V.data.getD j 0) := by rw [List.getD_eq_getElem?_getD, List.getElem?_eq_getElem hjl]; rfl
      generalize V.data.getD j 0 = y0 at *
      obtain ⟨bv2, hbv, hbne⟩ := u8_bit y0 hkk8
      have xs2 : (wb.setCell ⟨ga, j, none⟩ (.int .u8 (bv2.toNat : Int))).drew.cell? ⟨w14.heap.size, 0, none⟩ = some (.slice (some ⟨ga, 0, none⟩) V.data.length capa) := by
        show (wb.setCell ⟨ga, j, none⟩ _).cell? ⟨w14.heap.size, 0, none⟩ = _
        rw [World.cell?_setCell_other _ _ _ _ (by intro e; injection e with e2 _ _; omega)]
        exact xs0
      have hlI : (j : Int) < (V.data.length : Int) := by omega
      have ewj : IntKind.wrap .i64 (j : Int) = (j : Int) := IntWalk.i64_in _ (by omega)
      have ewk : IntKind.wrap .i64 (kk : Int) = (kk : Int) := IntWalk.i64_in _ (by omega)
      clear p0 p1 r0 r1 hba howna hga hrra HOBM HMR HSZ
      refine wp_region_held_drew (S := fun W => W.cell? ⟨w14.heap.size, 0, none⟩ = some (.slice (some ⟨ga, 0, none⟩) V.data.length capa)) rfl xs0 (fun _ => ?_)
      change wpAnyH _ _ _ _ _ 16 (Array.replicate 16 false) _ wb.drew
      refine wpAnyH_takeG 0 196 (.pointer (some ⟨w14.heap.size, 0, none⟩)) rfl rfl (by kernel_rfl) (by kernel_rfl) (by kernel_rfl) (fun _ _ _ h => h) rfl ?_ xs0 ?_
      · rintro w s0
        go_simp
        try with_reducible rfl
      try simp only [Act.put, List.setIfInBounds_toArray, List.set_cons_zero, List.set_cons_succ]
      refine wpAnyH_takeG 1 197 (.slice (some ⟨ga, 0, none⟩) V.data.length capa) rfl rfl (by kernel_rfl) (by kernel_rfl) (by kernel_rfl) (fun _ _ _ h => h) rfl ?_ xs0 ?_
      · rintro w s0
        go_simp
        try with_reducible rfl
      try simp only [Act.put, List.setIfInBounds_toArray, List.set_cons_zero, List.set_cons_succ]
      refine wpAnyH_takeG 2 198 (.int .i64 (k2 : Int)) rfl rfl (by kernel_rfl) (by kernel_rfl) (by kernel_rfl) (fun _ _ _ h => h) rfl ?_ xs0 ?_
      · rintro w s0
        go_simp
        try with_reducible rfl
      try simp only [Act.put, List.setIfInBounds_toArray, List.set_cons_zero, List.set_cons_succ]
      refine wpAnyH_takeG 3 199 (.int .i64 (j : Int)) rfl rfl (by kernel_rfl) (by kernel_rfl) (by kernel_rfl) (fun _ _ _ h => h) rfl ?_ xs0 ?_
      · rintro w s0
        go_simp
        try with_reducible rfl
      try simp only [Act.put, List.setIfInBounds_toArray, List.set_cons_zero, List.set_cons_succ]
      refine wpAnyH_takeG 4 200 (.pointer (some ⟨w14.heap.size, 0, none⟩)) rfl rfl (by kernel_rfl) (by kernel_rfl) (by kernel_rfl) (fun _ _ _ h => h) rfl ?_ xs0 ?_
      · rintro w s0
        go_simp
        try with_reducible rfl
      try simp only [Act.put, List.setIfInBounds_toArray, List.set_cons_zero, List.set_cons_succ]
      refine wpAnyH_takeG 5 201 (.slice (some ⟨ga, 0, none⟩) V.data.length capa) rfl rfl (by kernel_rfl) (by kernel_rfl) (by kernel_rfl) (fun _ _ _ h => h) rfl ?_ xs0 ?_
      · rintro w s0
        go_simp
        try with_reducible rfl
      try simp only [Act.put, List.setIfInBounds_toArray, List.set_cons_zero, List.set_cons_succ]
      refine wpAnyH_takeG 6 202 (.int .i64 (k2 : Int)) rfl rfl (by kernel_rfl) (by kernel_rfl) (by kernel_rfl) (fun _ _ _ h => h) rfl ?_ xs0 ?_
      · rintro w s0
        go_simp
        try with_reducible rfl
      try simp only [Act.put, List.setIfInBounds_toArray, List.set_cons_zero, List.set_cons_succ]
      refine wpAnyH_takeG 7 203 (.int .i64 (j : Int)) rfl rfl (by kernel_rfl) (by kernel_rfl) (by kernel_rfl) (fun _ _ _ h => h) rfl ?_ xs0 ?_
      · rintro w s0
        go_simp
        try with_reducible rfl
      try simp only [Act.put, List.setIfInBounds_toArray, List.set_cons_zero, List.set_cons_succ]
      refine wpAnyH_takeG 8 204 (.pointer (some ⟨ga, j, none⟩)) rfl rfl (by kernel_rfl) (by kernel_rfl) (by kernel_rfl) (fun _ _ _ h => h) rfl ?_ xs0 ?_
      · rintro w s0
        go_simp
        try with_reducible rfl
      try simp only [Act.put, List.setIfInBounds_toArray, List.set_cons_zero, List.set_cons_succ]
      refine wpAnyH_takeG 10 206 (.int .i64 (k2 : Int)) rfl rfl (by kernel_rfl) (by kernel_rfl) (by kernel_rfl) (fun _ _ _ h => h) rfl ?_ xs0 ?_
      · rintro w s0
        go_simp
        try with_reducible rfl
      try simp only [Act.put, List.setIfInBounds_toArray, List.set_cons_zero, List.set_cons_succ]
      refine wpAnyH_takeG 11 207 (.int .i64 (kk : Int)) rfl rfl (by kernel_rfl) (by kernel_rfl) (by kernel_rfl) (fun _ _ _ h => h) rfl ?_ xs0 ?_
      · rintro w s0
        go_simp
        try with_reducible rfl
      try simp only [Act.put, List.setIfInBounds_toArray, List.set_cons_zero, List.set_cons_succ]
      refine wpAnyH_takeG 12 208 (.int .u8 (IntKind.u8.wrap ((2 : Int) ^ kk))) rfl rfl (by kernel_rfl) (by kernel_rfl) (by kernel_rfl) (fun _ _ _ h => h) rfl ?_ xs0 ?_
      · rintro w s0
        go_simp
        try with_reducible rfl
      try simp only [Act.put, List.setIfInBounds_toArray, List.set_cons_zero, List.set_cons_succ]
      refine wpAnyH_oneG (i := 9) (by kernel_rfl) rfl rfl ?_
      intro Kx hKx
      go_simp
      refine hKx _ _ xs0 ?_
      clear hKx Kx
      try simp only [Act.put, List.setIfInBounds_toArray, List.set_cons_zero, List.set_cons_succ]
      refine wpAnyH_takeG 13 209 (.int .u8 (bits .xor .u8 (y0.toNat : Int) (IntKind.u8.wrap ((2 : Int) ^ kk)))) rfl rfl (by kernel_rfl) (by kernel_rfl) (by kernel_rfl) (fun _ _ _ h => h) rfl ?_ xs0 ?_
      · rintro w s0
        go_simp
        try with_reducible rfl
      try simp only [Act.put, List.setIfInBounds_toArray, List.set_cons_zero, List.set_cons_succ]
      refine wpAnyH_takeG 14 210 (.pointer (some ⟨ga, j, none⟩)) rfl rfl (by kernel_rfl) (by kernel_rfl) (by kernel_rfl) (fun _ _ _ h => h) rfl ?_ xs0 ?_
      · rintro w s0
        go_simp
        try with_reducible rfl
      try simp only [Act.put, List.setIfInBounds_toArray, List.set_cons_zero, List.set_cons_succ]
      refine wpAnyH_oneG (i := 15) (by kernel_rfl) rfl rfl ?_
      intro Kx hKx
      go_simp
      refine hKx _ _ xs2 ?_
      clear hKx Kx
      try simp only [Act.put, List.setIfInBounds_toArray, List.set_cons_zero, List.set_cons_succ]
      refine wpAnyH_done (by kernel_rfl) ?_ _
      clear xs0 xs1 ys1 xs2 ewj ewk d1 d2 d3 d4
      have own18 := own17.stored j bv2 _ rfl
      have hbl18 := (hbl.setCell (p := ⟨ga, j, none⟩) (by show w14.heap.size ≤ ga; omega) (.int .u8 (bv2.toNat : Int))).drew
      have hr18 : (wb.setCell ⟨ga, j, none⟩ (.int .u8 (bv2.toNat : Int))).drew.heap[w14.heap.size]? = some (.cells #[.slice (some ⟨ga, 0, none⟩) V.data.length capa, .int .i64 V.sw] 32 (0, 0)) := (Below.heap_setCell _ _ _ _ (by show w14.heap.size ≠ ga; omega)).trans hr17
      have hsr : SL (wb.setCell ⟨ga, j, none⟩ (.int .u8 (bv2.toNat : Int))).drew (wb.setCell ⟨ga, j, none⟩ (.int .u8 (bv2.toNat : Int))).drew.heap.size (.slice (some ⟨ga, 0, none⟩) V.data.length capa) (V.data.set j bv2) := own18.sl.on (Below.refl _ _).drew
      have hls : (V.data.set j bv2).length = V.data.length := List.length_set
      have HZ16 : Hid (Oz w (wb.setCell ⟨ga, j, none⟩ (.int .u8 (bv2.toNat : Int))).drew g1 (Obj.cells #[.int .i64 a.cla, .int .i64 a.ins, .int .i64 a.p1, .int .i64 a.p2, .slice Aa a.data.length ka, .int .i64 a.le, .bool a.long, .slice Ar r.data.length kr, .int .i64 r.sw, .int .u16 (at' : Int)] 51) w14.heap.size ⟨V.data.set j bv2, V.sw⟩ (some ⟨ga, 0, none⟩) capa (onS (Ch.new s m) a)) :=
        ⟨HO14.out.b.trans (hbl18.mono HO14.out.b.size), (hbl18.block _ (blk_lt HO14.out.rx)).trans HO14.out.rx, by show _ = some (Obj.cells #[.slice (some ⟨ga, 0, none⟩) (V.data.set j bv2).length capa, .int .i64 V.sw] 32 (0, 0)); rw [hls]; exact hr18, by show SL _ _ (.slice (some ⟨ga, 0, none⟩) (V.data.set j bv2).length capa) _; rw [hls]; exact hsr, HO14.out.c1.below hbl18⟩
      have hM : (V.data.set j bv2).drop ((V.data.set j bv2).length - 8) ≠ rmF (onS (Ch.new s m) a) V.sw ((V.data.set j bv2).take ((V.data.set j bv2).length - 8)) := by
        have hs : V.sw = r.sw := by rw [HVD.out, asY_sw]
        rw [hs, HVY.out]
        exact rbad_data HO1.out r j bv2 (by rw [← HVY.out]; exact hjl) (by rw [← HVY.out, hy0]; intro e; injection e with e; exact hbne e.symm)
      have hck : ckE (onS (Ch.new s m) a) ⟨V.data.set j bv2, V.sw⟩ = 0 := by
        have hs : V.sw = r.sw := by rw [HVD.out, asY_sw]
        rw [hs]
        exact HKZ.out
      have hop := fun W (h : CH W g1 (onS (Ch.new s m) a)) (ht : ET W) hd => open_wrong HO1.out (show hasB (onS (Ch.new s m) a).lvl 16 = true from hq) hck (by show 8 ≤ (V.data.set j bv2).length; rw [hls, HVL.out]; omega) (by show (V.data.set j bv2).length ≤ 2000; rw [hls]; omega) hM g1 (some ⟨ga, 0, none⟩) capa W h ht hd
      simp only [Rs.val] at hop
      have HOP := Lib.hid hop
      have hg14 : g1 < w14.heap.size := HO14.out.c1.lt
      clear hM hck hop hsr hr18 hbl18 own18 hbl own17 hr17 z2 z3 z4 z5 z6 z7 t4 m9
      generalize (wb.setCell ⟨ga, j, none⟩ (.int .u8 (bv2.toNat : Int))).drew = w16 at *
      obtain ⟨rb, hrb⟩ : ∃ rb : Rs, rb = ⟨V.data.set j bv2, V.sw⟩ := ⟨_, rfl⟩
      rw [← hrb] at HZ16
      have hbl : rb.data = V.data.set j bv2 := by rw [hrb]
      have hbs : rb.sw = V.sw := by rw [hrb]
      rw [← hbl, ← hbs] at HOP
      clear hrb hbl hbs
      obtain ⟨⟨x0, x1⟩, y0, y1⟩ := cells2 HZ16.out.rr
      go_wp2_with fail
      refine (HOP.out w16 HZ16.out.c1 (ET.on HET.out HZ16.out.b) HZ16.out.sr).mono ?_
      rintro e w17 ⟨rfl, hc17, hk17⟩
      have HZ17 := Lib.hid (HZ16.out.k1 hk17 hc17 HG1.out (by omega))
      clear hc17 hk17 x0 x1 y0 y1 HOP
      have n0 := cell_of_row _ _ 0 _ _ _ HZ17.out.rx
      have n1 := cell_of_row _ _ 1 _ _ _ HZ17.out.rx
      have n2 := cell_of_row _ _ 2 _ _ _ HZ17.out.rx
      have n3 := cell_of_row _ _ 3 _ _ _ HZ17.out.rx
      have n4 := cell_of_row _ _ 4 _ _ _ HZ17.out.rx
      have n5 := cell_of_row _ _ 5 _ _ _ HZ17.out.rx
      have n6 := cell_of_row _ _ 6 _ _ _ HZ17.out.rx
      have z2 := blk_lt HZ17.out.rx
      have z3 : w.heap.size + 1 ≠ w17.heap.size := by omega
      have z4 : w17.heap.size ≠ w.heap.size + 1 := by omega
      go_wp2_with fail
      have HZ18 := Lib.hid (HZ17.out.al (Obj.cells #[.slice none 0 0, .int .i64 0] 32))
      have hwz := pWrap_shut g1 (onS (Ch.new s m) a) a Aa ka _ HZ18.out.c1 HO1.out.cv (ET.on HET.out HZ18.out.b) HLA.out
      simp only [Cm.val, Cm.zero] at hwz
      refine hwz.mono ?_
      rintro e w19 ⟨rfl, hb19⟩
      clear hwz n0 n1 n2 n3 n4 n5 n6 z2 z3 z4
      have HZ19 := Lib.hid ((HZ18.out.on hb19).al (Obj.cells #[.int .i64 0, .int .i64 0, .int .i64 0, .int .i64 0, .slice none 0 0, .int .i64 0, .bool false] 30))
      clear hb19
      have hlv := plevel_any g1 _ _ HZ19.out.c1
      have e8 : (onS (Ch.new s m) a).shut.cv.length = 8 := HO1.out.cv
      rw [e8] at hlv
      have HLV : Hid (Calls Tryd.prog 17 #[.pointer (some ⟨g1, 0, none⟩)] (w19.alloc (Obj.cells #[.int .i64 0, .int .i64 0, .int .i64 0, .int .i64 0, .slice none 0 0, .int .i64 0, .bool false] 30)) fun e w' => e = .returned (.int .i64 0) ∧ (w19.alloc (Obj.cells #[.int .i64 0, .int .i64 0, .int .i64 0, .int .i64 0, .slice none 0 0, .int .i64 0, .bool false] 30)) = w') := hlv
      clear hlv e8
      go_wp2_with (first
        | (go_at_call 17; refine HLV.out.mono ?_; rintro e w' ⟨rfl, rfl⟩)
        | fail "none")
      refine (awake_any _).mono ?_
      rintro e w20 ⟨rfl, hb20⟩
      have HZ20 := Lib.hid (HZ19.out.on hb20)
      clear hb20
      go_wp2_with fail
      go_ret
      exact ⟨rfl, HZ20.out.b⟩
    have hkd1 : ¬ ((k2 : Int) < 8 * (V.data.length : Int)) := by omega
    obtain ⟨q, hqk⟩ : ∃ q, k2 = 8 * V.data.length + q := ⟨k2 - 8 * V.data.length, by omega⟩
    have hq16 : q < 16 := by omega
    have ek5 : (at' : Int) % (8 * (V.data.length : Int) + 16) = 8 * (V.data.length : Int) + (q : Int) := by rw [ek3, hqk]; omega
    have ek6 : (at' : Int).tmod (8 * (V.data.length : Int) + 16) = 8 * (V.data.length : Int) + (q : Int) := by rw [ek4, hqk]; omega
    have eq1 : 8 * (V.data.length : Int) + (q : Int) - 8 * (V.data.length : Int) = (q : Int) := by omega
    have eq2 : IntKind.wrap .i64 (8 * (V.data.length : Int) + (q : Int) - 8 * (V.data.length : Int)) = (q : Int) := by rw [eq1, IntWalk.i64_in _ (by omega)]
    have eq3 : IntKind.wrap .i64 (8 * (V.data.length : Int)) = 8 * (V.data.length : Int) := IntWalk.i64_in _ (by omega)
    have eq4 : IntKind.wrap .i64 (q : Int) = (q : Int) := IntWalk.i64_in _ (by omega)
    have hkd2 : ¬ (8 * (V.data.length : Int) + (q : Int) < 8 * (V.data.length : Int)) := by omega
    clear ek3 ek4 hqk hkd1 hkd hk16
    obtain ⟨hxp, N, hN, hN6⟩ := ckE_zero HKZ.out
    have hVs : V.sw = (N : Int) := by rw [HVD.out, asY_sw]; exact hN
    obtain ⟨pv2, hpv2⟩ : ∃ pv2, pv2 = bits .xor .i64 V.sw (IntKind.i64.wrap ((2 : Int) ^ q)) := ⟨_, rfl⟩
    have hpn : pv2 = ((N ^^^ 2 ^ q : Nat) : Int) := by
      rw [hpv2, hVs, pow16 hq16, i64_xor_nat N (2 ^ q) (by omega) (Nat.lt_trans (Nat.pow_lt_pow_right (by omega) hq16) (by decide))]
    have hlt : N ^^^ 2 ^ q < 65536 := Nat.xor_lt_two_pow (n := 16) (by omega) (Nat.pow_lt_pow_right (by omega) hq16)
    have hM : V.data.drop (V.data.length - 8) ≠ rmF (onS (Ch.new s m) a) pv2 (V.data.take (V.data.length - 8)) := by
      rw [hpn, HVY.out]
      exact rbad_sw HO1.out r N q hN (by omega) hq16
    have hck : ckE (onS (Ch.new s m) a) ⟨V.data, pv2⟩ = 0 := by
      unfold ckE
      rw [hxp, if_neg (by simp), if_neg (by show ¬ (pv2 < 0 ∨ 65535 < pv2); rw [hpn]; omega)]
    have hop := fun W (h : CH W g1 (onS (Ch.new s m) a)) (ht : ET W) hd => open_wrong HO1.out (show hasB (onS (Ch.new s m) a).lvl 16 = true from hq) hck (by show 8 ≤ V.data.length; rw [HVL.out]; omega) (by show V.data.length ≤ 2000; omega) hM g1 A14 c14 W h ht hd
    simp only [Rs.val] at hop
    have HOP := Lib.hid hop
    clear hM hck hop hpn hlt hVs hxp hN hN6
    go_wp2_with fail
    have hz15 : Oz w (w14.alloc (Obj.cells #[.slice A14 V.data.length c14, .int .i64 V.sw] 32)) g1 (Obj.cells #[.int .i64 a.cla, .int .i64 a.ins, .int .i64 a.p1, .int .i64 a.p2, .slice Aa a.data.length ka, .int .i64 a.le, .bool a.long, .slice Ar r.data.length kr, .int .i64 r.sw, .int .u16 (at' : Int)] 51) w14.heap.size V A14 c14 (onS (Ch.new s m) a) :=
      ⟨(HO14.out.al _).b, (HO14.out.al _).rx, heap_alloc_new w14 _, HV14.out.on (alloc_below w14 _), (HO14.out.al _).c1⟩
    generalize w14.alloc (Obj.cells #[.slice A14 V.data.length c14, .int .i64 V.sw] 32) = w15 at *
    obtain ⟨⟨x0, x1⟩, y0, y1⟩ := cells2 hz15.rr
    have hg14 : g1 < w14.heap.size := HO14.out.c1.lt
    have HZ16 := Lib.hid ((hz15.st pv2 z2 (by omega)).dr)
    clear hz15
    have xs0 : w15.drew.cell? ⟨w14.heap.size, 0, none⟩ = some (.slice A14 V.data.length c14) := x0
    have xs1 : w15.drew.cell? ⟨w14.heap.size, 1, none⟩ = some (.int .i64 V.sw) := x1
    have ys1 : w15.drew.frozen? ⟨w14.heap.size, 1, none⟩ = false := y1
    have xs2 : (w15.setCell ⟨w14.heap.size, 1, none⟩ (.int .i64 (bits BinOp.xor IntKind.i64 V.sw (IntKind.i64.wrap (2 ^ q))))).drew.cell? ⟨w14.heap.size, 0, none⟩ = some (.slice A14 V.data.length c14) := by
      show (w15.setCell ⟨w14.heap.size, 1, none⟩ _).cell? ⟨w14.heap.size, 0, none⟩ = _
      rw [World.cell?_setCell_other _ _ _ _ (by intro e; injection e with _ e2 _; cases e2)]
      exact x0
    refine wp_region_held_drew (S := fun W => W.cell? ⟨w14.heap.size, 0, none⟩ = some (.slice A14 V.data.length c14)) rfl xs0 (fun _ => ?_)
    change wpAnyH _ _ _ _ _ 12 (Array.replicate 12 false) _ w15.drew
    refine wpAnyH_takeG 0 211 (.pointer (some ⟨w14.heap.size, 1, none⟩)) rfl rfl (by kernel_rfl) (by kernel_rfl) (by kernel_rfl) (fun _ _ _ h => h) rfl ?_ xs0 ?_
    · rintro w s0
      go_simp
      try with_reducible rfl
    try simp only [Act.put, List.setIfInBounds_toArray, List.set_cons_zero, List.set_cons_succ]
    refine wpAnyH_takeG 2 213 (.int .i64 (8 * (V.data.length : Int) + (q : Int))) rfl rfl (by kernel_rfl) (by kernel_rfl) (by kernel_rfl) (fun _ _ _ h => h) rfl ?_ xs0 ?_
    · rintro w s0
      go_simp
      try with_reducible rfl
    try simp only [Act.put, List.setIfInBounds_toArray, List.set_cons_zero, List.set_cons_succ]
    refine wpAnyH_takeG 3 214 (.pointer (some ⟨w14.heap.size, 0, none⟩)) rfl rfl (by kernel_rfl) (by kernel_rfl) (by kernel_rfl) (fun _ _ _ h => h) rfl ?_ xs0 ?_
    · rintro w s0
      go_simp
      try with_reducible rfl
    try simp only [Act.put, List.setIfInBounds_toArray, List.set_cons_zero, List.set_cons_succ]
    refine wpAnyH_takeG 4 215 (.slice A14 V.data.length c14) rfl rfl (by kernel_rfl) (by kernel_rfl) (by kernel_rfl) (fun _ _ _ h => h) rfl ?_ xs0 ?_
    · rintro w s0
      go_simp
      try with_reducible rfl
    try simp only [Act.put, List.setIfInBounds_toArray, List.set_cons_zero, List.set_cons_succ]
    refine wpAnyH_takeG 5 216 (.int .i64 (V.data.length : Int)) rfl rfl (by kernel_rfl) (by kernel_rfl) (by kernel_rfl) (fun _ _ _ h => h) rfl ?_ xs0 ?_
    · rintro w s0
      go_simp
      try with_reducible rfl
    try simp only [Act.put, List.setIfInBounds_toArray, List.set_cons_zero, List.set_cons_succ]
    refine wpAnyH_takeG 6 217 (.int .i64 (8 * (V.data.length : Int))) rfl rfl (by kernel_rfl) (by kernel_rfl) (by kernel_rfl) (fun _ _ _ h => h) rfl ?_ xs0 ?_
    · rintro w s0
      go_simp
      try with_reducible rfl
    try simp only [Act.put, List.setIfInBounds_toArray, List.set_cons_zero, List.set_cons_succ]
    refine wpAnyH_takeG 7 218 (.int .i64 (q : Int)) rfl rfl (by kernel_rfl) (by kernel_rfl) (by kernel_rfl) (fun _ _ _ h => h) rfl ?_ xs0 ?_
    · rintro w s0
      go_simp
      try with_reducible rfl
    try simp only [Act.put, List.setIfInBounds_toArray, List.set_cons_zero, List.set_cons_succ]
    refine wpAnyH_takeG 8 219 (.int .i64 (IntKind.i64.wrap ((2 : Int) ^ q))) rfl rfl (by kernel_rfl) (by kernel_rfl) (by kernel_rfl) (fun _ _ _ h => h) rfl ?_ xs0 ?_
    · rintro w s0
      go_simp
      try with_reducible rfl
    try simp only [Act.put, List.setIfInBounds_toArray, List.set_cons_zero, List.set_cons_succ]
    refine wpAnyH_oneG (i := 1) (by kernel_rfl) rfl rfl ?_
    intro Kx hKx
    go_simp
    refine hKx _ _ xs0 ?_
    clear hKx Kx
    try simp only [Act.put, List.setIfInBounds_toArray, List.set_cons_zero, List.set_cons_succ]
    refine wpAnyH_takeG 9 220 (.int .i64 pv2) rfl rfl (by kernel_rfl) (by kernel_rfl) (by kernel_rfl) (fun _ _ _ h => h) rfl ?_ xs0 ?_
    · rintro w s0
      go_simp
      try with_reducible rfl
    try simp only [Act.put, List.setIfInBounds_toArray, List.set_cons_zero, List.set_cons_succ]
    refine wpAnyH_takeG 10 221 (.pointer (some ⟨w14.heap.size, 1, none⟩)) rfl rfl (by kernel_rfl) (by kernel_rfl) (by kernel_rfl) (fun _ _ _ h => h) rfl ?_ xs0 ?_
    · rintro w s0
      go_simp
      try with_reducible rfl
    try simp only [Act.put, List.setIfInBounds_toArray, List.set_cons_zero, List.set_cons_succ]
    refine wpAnyH_oneG (i := 11) (by kernel_rfl) rfl rfl ?_
    intro Kx hKx
    go_simp
    refine hKx _ _ xs2 ?_
    clear hKx Kx
    try simp only [Act.put, List.setIfInBounds_toArray, List.set_cons_zero, List.set_cons_succ]
    refine wpAnyH_done (by kernel_rfl) ?_ _
    rw [← hpv2]
    clear xs0 xs1 ys1 xs2
    generalize (w15.setCell ⟨w14.heap.size, 1, none⟩ (.int .i64 pv2)).drew = w16 at *
    obtain ⟨rb, hrb⟩ : ∃ rb : Rs, rb = ⟨V.data, pv2⟩ := ⟨_, rfl⟩
    rw [← hrb] at HZ16
    clear x0 x1 y0 y1 z2 z3 z4 z5 z6 z7 t4 m9
    have hbl : rb.data = V.data := by rw [hrb]
    have hbs : rb.sw = pv2 := by rw [hrb]
    rw [← hbl, ← hbs] at HOP
    clear hpv2 hrb hbl hbs
    obtain ⟨⟨x0, x1⟩, y0, y1⟩ := cells2 HZ16.out.rr
    go_wp2_with fail
    refine (HOP.out w16 HZ16.out.c1 (ET.on HET.out HZ16.out.b) HZ16.out.sr).mono ?_
    rintro e w17 ⟨rfl, hc17, hk17⟩
    have HZ17 := Lib.hid (HZ16.out.k1 hk17 hc17 HG1.out (by omega))
    clear hc17 hk17 x0 x1 y0 y1 HOP
    have n0 := cell_of_row _ _ 0 _ _ _ HZ17.out.rx
    have n1 := cell_of_row _ _ 1 _ _ _ HZ17.out.rx
    have n2 := cell_of_row _ _ 2 _ _ _ HZ17.out.rx
    have n3 := cell_of_row _ _ 3 _ _ _ HZ17.out.rx
    have n4 := cell_of_row _ _ 4 _ _ _ HZ17.out.rx
    have n5 := cell_of_row _ _ 5 _ _ _ HZ17.out.rx
    have n6 := cell_of_row _ _ 6 _ _ _ HZ17.out.rx
    have z2 := blk_lt HZ17.out.rx
    have z3 : w.heap.size + 1 ≠ w17.heap.size := by omega
    have z4 : w17.heap.size ≠ w.heap.size + 1 := by omega
    go_wp2_with fail
    have HZ18 := Lib.hid (HZ17.out.al (Obj.cells #[.slice none 0 0, .int .i64 0] 32))
    have hwz := pWrap_shut g1 (onS (Ch.new s m) a) a Aa ka _ HZ18.out.c1 HO1.out.cv (ET.on HET.out HZ18.out.b) HLA.out
    simp only [Cm.val, Cm.zero] at hwz
    refine hwz.mono ?_
    rintro e w19 ⟨rfl, hb19⟩
    clear hwz n0 n1 n2 n3 n4 n5 n6 z2 z3 z4
    have HZ19 := Lib.hid ((HZ18.out.on hb19).al (Obj.cells #[.int .i64 0, .int .i64 0, .int .i64 0, .int .i64 0, .slice none 0 0, .int .i64 0, .bool false] 30))
    clear hb19
    have hlv := plevel_any g1 _ _ HZ19.out.c1
    have e8 : (onS (Ch.new s m) a).shut.cv.length = 8 := HO1.out.cv
    rw [e8] at hlv
    have HLV : Hid (Calls Tryd.prog 17 #[.pointer (some ⟨g1, 0, none⟩)] (w19.alloc (Obj.cells #[.int .i64 0, .int .i64 0, .int .i64 0, .int .i64 0, .slice none 0 0, .int .i64 0, .bool false] 30)) fun e w' => e = .returned (.int .i64 0) ∧ (w19.alloc (Obj.cells #[.int .i64 0, .int .i64 0, .int .i64 0, .int .i64 0, .slice none 0 0, .int .i64 0, .bool false] 30)) = w') := hlv
    clear hlv e8
    go_wp2_with (first
      | (go_at_call 17; refine HLV.out.mono ?_; rintro e w' ⟨rfl, rfl⟩)
      | fail "none")
    refine (awake_any _).mono ?_
    rintro e w20 ⟨rfl, hb20⟩
    have HZ20 := Lib.hid (HZ19.out.on hb20)
    clear hb20
    go_wp2_with fail
    go_ret
    exact ⟨rfl, HZ20.out.b⟩
    --T
end Go.Proofs.YtdalcldilmmgmaaDoor
