/-
  The law of the two sides that agree.
-/
import Derived.Test.YtdalcldilmmgmaaDoorCsf
namespace Go.Proofs.YtdalcldilmmgmaaDoor
set_option linter.unusedVariables false
set_option linter.unusedSimpArgs false
open Go.RowKit

/-- A turn: a command and the response to it. -/
structure Tn where
  c : Cm
  r : Rs
instance : Inhabited Tn := ⟨⟨⟨0, 0, 0, 0, [], 0, false⟩, ⟨[], 0⟩⟩⟩
/-- Nine cells that hold a turn; its data lie below block B. -/
def TnA (w : World) (B b o : Nat) (t : Tn) : Prop :=
  w.cell? ⟨b, o, none⟩ = some (.int .i64 t.c.cla) ∧ w.cell? ⟨b, o + 1, none⟩ = some (.int .i64 t.c.ins) ∧ w.cell? ⟨b, o + 2, none⟩ = some (.int .i64 t.c.p1) ∧ w.cell? ⟨b, o + 3, none⟩ = some (.int .i64 t.c.p2) ∧
    (∃ A k, w.cell? ⟨b, o + 4, none⟩ = some (.slice A t.c.data.length k) ∧ SL w B (.slice A t.c.data.length k) t.c.data) ∧ w.cell? ⟨b, o + 5, none⟩ = some (.int .i64 t.c.le) ∧ w.cell? ⟨b, o + 6, none⟩ = some (.bool t.c.long) ∧
    (∃ A k, w.cell? ⟨b, o + 7, none⟩ = some (.slice A t.r.data.length k) ∧ SL w B (.slice A t.r.data.length k) t.r.data) ∧ w.cell? ⟨b, o + 8, none⟩ = some (.int .i64 t.r.sw)
/-- v is a slice of turns that reads as l; all of it lies below block B. -/
def TuL (w : World) (B : Nat) (v : Value) (l : List Tn) : Prop :=
  ∃ A k, v = .slice A l.length k ∧ l.length ≤ k ∧ k ≤ maxLen ∧ Hid (0 < l.length → ∃ b o, A = some ⟨b, o, none⟩ ∧ b < B ∧ ∀ i, i < l.length → TnA w B b (o + i * 9) (l.getD i default))
theorem TnA.keep {w w' : World} {B b o : Nat} {t : Tn} (h : TnA w B b o t) (hb : b < B) (hk : ∀ p : Addr, p.block < B → w'.cell? p = w.cell? p) : TnA w' B b o t := by
  obtain ⟨h0, h1, h2, h3, ⟨A, k, h4, h4'⟩, h5, h6, ⟨A2, k2, h7, h7'⟩, h8⟩ := h
  exact ⟨(hk _ hb).trans h0, (hk _ hb).trans h1, (hk _ hb).trans h2, (hk _ hb).trans h3, ⟨A, k, (hk _ hb).trans h4, h4'.keep hk⟩, (hk _ hb).trans h5, (hk _ hb).trans h6, ⟨A2, k2, (hk _ hb).trans h7, h7'.keep hk⟩, (hk _ hb).trans h8⟩
/-- A box and two sides. -/
structure Ls (w W : World) (g1 g2 : Nat) (X : Obj) (S T : Ch) : Prop where
  b : Below w.heap.size w W
  rs : W.heap[w.heap.size]? = some X
  c1 : CH W g1 S
  c2 : CH W g2 T
section
variable {w W W2 : World} {g1 g2 : Nat} {X : Obj} {S T S2 : Ch}
theorem Ls.on (h : Ls w W g1 g2 X S T) (hb : Below W.heap.size W W2) : Ls w W2 g1 g2 X S T := ⟨h.b.trans (hb.mono h.b.size), (hb.block _ (blk_lt h.rs)).trans h.rs, h.c1.below hb, h.c2.below hb⟩
theorem Ls.al (h : Ls w W g1 g2 X S T) (o : Obj) : Ls w (W.alloc o) g1 g2 X S T := h.on (alloc_below W o)
theorem Ls.k1 (h : Ls w W g1 g2 X S T) (hk : Kb g1 W W2) (hc : CH W2 g1 S2) (h1 : w.heap.size < g1) (hne : g1 ≠ g2) : Ls w W2 g1 g2 X S2 T :=
  ⟨h.b.trans (hk.below (by omega) h.b.size), (hk.block _ (blk_lt h.rs) (by omega)).trans h.rs, hc, h.c1.other h.c2 hne hk⟩
theorem Ls.k2 (h : Ls w W g1 g2 X S T) (hk : Kb g2 W W2) (hc : CH W2 g2 S2) (h1 : w.heap.size < g2) (hne : g1 ≠ g2) : Ls w W2 g1 g2 X S S2 :=
  ⟨h.b.trans (hk.below (by omega) h.b.size), (hk.block _ (blk_lt h.rs) (by omega)).trans h.rs, h.c2.other h.c1 (Ne.symm hne) hk, hc⟩
end
set_option maxRecDepth 100000 in
set_option maxHeartbeats 6400000 in
theorem law_agrees (s : Ss) (m : List UInt8) (l : List Tn) (v0 v1 v2 v3 vm vl : Value) (w : World) (h0 : SL w w.heap.size v0 s.enc) (h1 : SL w w.heap.size v1 s.mac) (h2 : SL w w.heap.size v2 s.rmac) (h3 : SL w w.heap.size v3 s.dat) (hm : SL w w.heap.size vm m) (hl : TuL w w.heap.size vl l)
    (ht : ET w) (hle : ∀ t ∈ l, -9223372036854775808 ≤ t.c.le ∧ t.c.le ≤ 9223372036854775807) :
    Calls Tryd.prog 3 #[s.val v0 v1 v2 v3, vm, vl] w fun e w' => e = .returned (.bool true) ∧ Below w.heap.size w w' := by
  obtain ⟨A0, c0, rfl, _, _, _⟩ := id h0
  obtain ⟨A1, c1, rfl, _, _, _⟩ := id h1
  obtain ⟨A2, c2, rfl, _, _, _⟩ := id h2
  obtain ⟨A3, c3, rfl, _, _, _⟩ := id h3
  obtain ⟨Am, cm, rfl, hml, _, _⟩ := id hm
  obtain ⟨Al, kl, rfl, hlk, hlm, hlc⟩ := hl
  have HNW := Lib.hid fun W (hW : Below w.heap.size w W) => pnew_any s m (.slice A0 s.enc.length c0) (.slice A1 s.mac.length c1) (.slice A2 s.rmac.length c2) (.slice A3 s.dat.length c3) (.slice Am m.length cm) W (h0.on hW) (h1.on hW) (h2.on hW) (h3.on hW) (hm.on hW)
  have HET := Lib.hid ht
  have HLE := Lib.hid hle
  unfold Ss.val at *
  have hb1 := alloc_below w (Obj.cells #[.slice A0 s.enc.length c0, .slice A1 s.mac.length c1, .slice A2 s.rmac.length c2, .slice A3 s.dat.length c3, .int .i64 s.lvl] 24)
  have hn1 := heap_alloc_new w (Obj.cells #[.slice A0 s.enc.length c0, .slice A1 s.mac.length c1, .slice A2 s.rmac.length c2, .slice A3 s.dat.length c3, .int .i64 s.lvl] 24)
  have HB := Lib.hid hb1
  have HN := Lib.hid hn1
  clear h0 h1 h2 h3 hm ht hle hb1 hn1
  by_cases hl6 : 10 < l.length
  · have hi : (10 : Int) < (l.length : Int) := by omega
    go_enter Tryd.func3, Tryd.ntmps3
    go_wp2_with fail
    go_ret
    exact ⟨rfl, HB.out⟩
  have hi : ¬ (10 : Int) < (l.length : Int) := by omega
  by_cases hm1 : 100 < m.length
  · have hj : (100 : Int) < (m.length : Int) := by omega
    go_enter Tryd.func3, Tryd.ntmps3
    go_wp2_with fail
    go_ret
    exact ⟨rfl, HB.out⟩
  have hj : ¬ (100 : Int) < (m.length : Int) := by omega
  go_enter Tryd.func3, Tryd.ntmps3
  go_wp2_with fail
  generalize w.alloc (Obj.cells #[.slice A0 s.enc.length c0, .slice A1 s.mac.length c1, .slice A2 s.rmac.length c2, .slice A3 s.dat.length c3, .int .i64 s.lvl] 24) = w1 at *
  cases hok : (s.ok && decide (m.length = 8)) with
  | false =>
    have HNO : Hid (∀ W, Below w.heap.size w W → Calls Tryd.prog 8 #[.agg #[.slice A0 s.enc.length c0, .slice A1 s.mac.length c1, .slice A2 s.rmac.length c2, .slice A3 s.dat.length c3, .int .i64 s.lvl], .slice Am m.length cm] W fun e w' => e = .returned (.pointer none) ∧ Below W.heap.size W w') := fun W hW => (HNW.out W hW).mono fun e w' h => by
      obtain ⟨hb, ⟨_, he⟩ | ⟨h, _⟩⟩ := h
      · exact ⟨he, hb⟩
      · rw [hok] at h; cases h
    clear hok HNW
    refine (HNO.out _ HB.out).mono ?_
    rintro e w3 ⟨rfl, hb3⟩
    have HB3 := Lib.hid (HB.out.trans (hb3.mono HB.out.size))
    have HN3 := Lib.hid ((hb3.block _ (blk_lt HN.out)).trans HN.out)
    clear hb3
    obtain ⟨q0, q1, q2, q3, q4⟩ := row5 HN3.out
    go_wp2_with fail
    refine (HNO.out _ HB3.out).mono ?_
    rintro e w4 ⟨rfl, hb4⟩
    have HB4 := Lib.hid (HB3.out.trans (hb4.mono HB3.out.size))
    clear hb4
    go_wp2_with fail
    refine (awake_any _).mono ?_
    rintro e w5 ⟨rfl, hb5⟩
    have HB5 := Lib.hid (HB4.out.trans (hb5.mono HB4.out.size))
    clear hb5
    go_wp2_with fail
    go_ret
    exact ⟨rfl, HB5.out⟩
  | true =>
    have HNO : Hid (∀ W, Below w.heap.size w W → Calls Tryd.prog 8 #[.agg #[.slice A0 s.enc.length c0, .slice A1 s.mac.length c1, .slice A2 s.rmac.length c2, .slice A3 s.dat.length c3, .int .i64 s.lvl], .slice Am m.length cm] W fun e w' => ∃ g, W.heap.size ≤ g ∧ e = .returned (.pointer (some ⟨g, 0, none⟩)) ∧ CH w' g (Ch.new s m) ∧ Below W.heap.size W w') := fun W hW => (HNW.out W hW).mono fun e w' h => by
      obtain ⟨hb, ⟨h, _⟩ | ⟨_, g, hg, he, hc⟩⟩ := h
      · rw [hok] at h; cases h
      · exact ⟨g, hg, he, hc, hb⟩
    have HOK : Hid (Okc (Ch.new s m) 0) := by
      unfold Ss.ok keyB at hok
      simp only [Bool.and_eq_true, decide_eq_true_eq] at hok
      obtain ⟨⟨⟨⟨⟨h1, h2⟩, h3⟩, h4⟩, h5⟩, h6⟩ := hok
      exact ⟨h1, h2, h3, h4, h6, rfl, rfl⟩
    clear hok HNW
    refine (HNO.out _ HB.out).mono ?_
    rintro e w3 ⟨g1, hg1, rfl, hc1, hb3⟩
    have HB3 := Lib.hid (HB.out.trans (hb3.mono HB.out.size))
    have HN3 := Lib.hid ((hb3.block _ (blk_lt HN.out)).trans HN.out)
    have HC1 := Lib.hid hc1
    have HG1 : Hid (w.heap.size < g1) := Nat.lt_of_lt_of_le (blk_lt HN.out) hg1
    clear hb3 hc1 hg1
    obtain ⟨q0, q1, q2, q3, q4⟩ := row5 HN3.out
    go_wp2_with fail
    refine (HNO.out _ HB3.out).mono ?_
    rintro e w4 ⟨g2, hg2, rfl, hc2, hb4⟩
    have HB4 := Lib.hid (HB3.out.trans (hb4.mono HB3.out.size))
    have HN4 := Lib.hid ((hb4.block _ (blk_lt HN3.out)).trans HN3.out)
    have HC14 := Lib.hid (HC1.out.below hb4)
    have HC2 := Lib.hid hc2
    have HNE : Hid (g1 ≠ g2) := by show _ ≠ _; have := HC1.out.lt; omega
    have HG2 : Hid (w.heap.size < g2) := by show _ < _; have := HG1.out; have := HC1.out.lt; omega
    clear hb4 hc2 hg2 HC1 HNO q0 q1 q2 q3 q4 HB3 HN3 HB HN
    go_wp2_with fail
    have HL0 : Hid (Ls w w4 g1 g2 (Obj.cells #[.slice A0 s.enc.length c0, .slice A1 s.mac.length c1, .slice A2 s.rmac.length c2, .slice A3 s.dat.length c3, .int .i64 s.lvl] 24) (Ch.new s m) (Ch.new s m)) := ⟨HB4.out, HN4.out, HC14.out, HC2.out⟩
    have HHC := Lib.hid hlc
    clear HB4 HN4 HC14 HC2 hlc
    go_loopw [9, 10] (fun nv i wr => ∃ (j q : Nat) (S : Ch), j ≤ l.length ∧ i = .int .i64 j ∧ nv = .int .i64 q ∧ q ≤ j ∧ Hid (Okc S q) ∧ Hid (S.lvl = s.lvl) ∧ Ls w wr g1 g2 (Obj.cells #[.slice A0 s.enc.length c0, .slice A1 s.mac.length c1, .slice A2 s.rmac.length c2, .slice A3 s.dat.length c3, .int .i64 s.lvl] 24) S S) (fun nv i _ => l.length - (intOf i).toNat)
    case atStart => exact ⟨0, 0, Ch.new s m, Nat.zero_le _, rfl, rfl, Nat.le_refl _, HOK.out, rfl, HL0.out⟩
    case round =>
      obtain ⟨j, q, S, hjl, rfl, rfl, hqj, HO, HLV, hls⟩ := hrel
      have HLS := Lib.hid hls
      clear hls HL0 HOK
      by_cases hj2 : j < l.length
      case neg =>
        have hjj : j = l.length := by omega
        subst hjj
        go_wp2_with fail
        have hl1 := fun W (h : CH W g1 S) => plevel_any g1 S W h
        have hl2 := fun W (h : CH W g2 S) => plevel_any g2 S W h
        rw [HO.out.cv, HLV.out] at hl1 hl2
        have HL1 : Hid (∀ W, CH W g1 S → Calls Tryd.prog 17 #[.pointer (some ⟨g1, 0, none⟩)] W fun e w' => e = .returned (.int .i64 s.lvl) ∧ W = w') := hl1
        have HL2 : Hid (∀ W, CH W g2 S → Calls Tryd.prog 17 #[.pointer (some ⟨g2, 0, none⟩)] W fun e w' => e = .returned (.int .i64 s.lvl) ∧ W = w') := hl2
        clear hl1 hl2
        have t4 := (row5 HLS.out.rs).2.2.2.2
        have hS6 : True := trivial
        go_region_held3 (fun W => W.cell? ⟨w.heap.size, 4, none⟩ = some (.int .i64 s.lvl))
          (first | (go_keep; done) | exact hS6)
          (first
            | (go_at_call 17; (with_reducible refine (HL1.out _ HLS.out.c1).mono ?_); rintro e w5 ⟨rfl, rfl⟩; have hS6 := t4)
            | (go_at_call 17; (with_reducible refine (HL1.out _ (HLS.out.on (Below.refl _ _).drew).c1).mono ?_); rintro e w5 ⟨rfl, rfl⟩; have hS6 : wr.drew.cell? ⟨w.heap.size, 4, none⟩ = some (.int .i64 s.lvl) := t4)
            | (go_at_call 17; (with_reducible refine (HL2.out _ HLS.out.c2).mono ?_); rintro e w5 ⟨rfl, rfl⟩; have hS6 := t4)
            | (go_at_call 17; (with_reducible refine (HL2.out _ (HLS.out.on (Below.refl _ _).drew).c2).mono ?_); rintro e w5 ⟨rfl, rfl⟩; have hS6 : wr.drew.cell? ⟨w.heap.size, 4, none⟩ = some (.int .i64 s.lvl) := t4)
            | (go_at_call 9; (with_reducible refine (awake_any _).mono ?_); rintro e w6 ⟨rfl, hb6⟩; have HLS6 := Lib.hid ((HLS.out.on (Below.refl _ _).drew).on hb6); have hS6 := (row5 HLS6.out.rs).2.2.2.2)
            | (go_at_call 9; (with_reducible refine (awake_any _).mono ?_); rintro e w6 ⟨rfl, hb6⟩; have HLS6 := Lib.hid (HLS.out.on hb6); have hS6 := (row5 HLS6.out.rs).2.2.2.2)
            | fail "none")
        go_wp2_with fail
        go_ret
        exact ⟨rfl, HLS6.out.b⟩
      obtain ⟨b, o, hA, hb, hcells⟩ := HHC.out (by omega)
      subst hA
      have htn := (hcells j hj2).keep hb (fun p hp => HLS.out.b.cell hp)
      have hmem : l.getD j default ∈ l := by
        rw [List.getD_eq_getElem?_getD, List.getElem?_eq_getElem hj2]
        exact List.getElem_mem hj2
      have hlex := HLE.out _ hmem
      have HTN : Hid (∀ W, Below w.heap.size w W → TnA W w.heap.size b (o + j * 9) (l.getD j default)) := fun W hW => (hcells j hj2).keep hb (fun p hp => hW.cell hp)
      clear hcells
      generalize l.getD j default = tn at *
      obtain ⟨X, R⟩ := tn
      obtain ⟨h0, h1, h2, h3, ⟨Ax, kx, h4, hsx⟩, h5, h6, ⟨Ar, kr, h7, hsr⟩, h8⟩ := htn
      simp only at h0 h1 h2 h3 h4 h5 h6 h7 h8 hlex hsx hsr
      have HSX := Lib.hid hsx
      have HSR := Lib.hid hsr
      have HLX := Lib.hid hlex
      clear hsx hsr hlex hmem
      have hBle : Hid (w.heap.size ≤ wr.heap.size) := HLS.out.b.size
      by_cases hx6 : 600 < X.data.length
      · have hx7 : (600 : Int) < (X.data.length : Int) := by omega
        go_wp2_with fail
        go_ret
        exact ⟨rfl, HLS.out.b⟩
      have hx7 : ¬ (600 : Int) < (X.data.length : Int) := by omega
      by_cases hr6 : 600 < R.data.length
      · have hr7 : (600 : Int) < (R.data.length : Int) := by omega
        go_wp2_with fail
        go_ret
        exact ⟨rfl, HLS.out.b⟩
      have hr7 : ¬ (600 : Int) < (R.data.length : Int) := by omega
      by_cases hE : wrE S X = 0
      case neg =>
        have hw := pWrap_no g1 S X Ax kx q wr HLS.out.c1 (ET.on HET.out HLS.out.b) HO.out HLX.out hE
        have hnz : (wrE S X != 0) = true := by rw [bne_iff_ne]; exact hE
        simp only [Cm.val, Cm.zero] at hw
        have HW := Lib.hid hw
        clear hw hE
        go_wp2_with fail
        refine HW.out.mono ?_
        rintro e w5 ⟨rfl, hb5⟩
        have HLS5 := Lib.hid ((HLS.out.on hb5).al (Obj.cells #[.int .i64 0, .int .i64 0, .int .i64 0, .int .i64 0, .slice none 0 0, .int .i64 0, .bool false] 30))
        clear hb5 HW
        go_wp2_with fail
        go_roundw
        case rel => exact ⟨j + 1, q, S, by omega, by go_num, rfl, by omega, HO.out, HLV.out, HLS5.out⟩
        case measure => simp [intOf]; omega
      have HE := Lib.hid hE
      clear hE
      have hw := ag_wrap HO.out (by omega) HE.out (by omega) g1 Ax kx wr HLS.out.c1 (HSX.out.more hBle.out)
      obtain ⟨Y, hY⟩ : ∃ Y, Y = agY S X q := ⟨_, rfl⟩
      rw [← hY] at hw
      have HYD := Lib.hid hY
      simp only [Cm.val] at hw
      have HW := Lib.hid hw
      clear hw hY
      go_wp2_with fail
      refine HW.out.mono ?_
      rintro e w5 ⟨v5, he, hv5, hc5, hk5⟩
      obtain ⟨A5, c5, rfl, _, _, _⟩ := id hv5
      simp only [Cm.val] at he
      subst he
      have HLS5 := Lib.hid (HLS.out.k1 hk5 hc5 HG1.out HNE.out)
      have HV5 := Lib.hid hv5
      clear hv5 hc5 hk5 HW
      go_wp2_with fail
      have HLS6 := Lib.hid (HLS5.out.al (Obj.cells #[.int .i64 Y.cla, .int .i64 Y.ins, .int .i64 Y.p1, .int .i64 Y.p2, .slice A5 Y.data.length c5, .int .i64 Y.le, .bool Y.long] 30))
      have HV6 := Lib.hid (HV5.out.on (alloc_below w5 (Obj.cells #[.int .i64 Y.cla, .int .i64 Y.ins, .int .i64 Y.p1, .int .i64 Y.p2, .slice A5 Y.data.length c5, .int .i64 Y.le, .bool Y.long] 30)))
      generalize w5.alloc (Obj.cells #[.int .i64 Y.cla, .int .i64 Y.ins, .int .i64 Y.p1, .int .i64 Y.p2, .slice A5 Y.data.length c5, .int .i64 Y.le, .bool Y.long] 30) = w6 at *
      have hu := ag_unwrap HO.out (by omega) HE.out (by omega) g2 A5 c5 w6 HLS6.out.c2 (by rw [← HYD.out]; exact HV6.out)
      unfold agZ at hu
      rw [← HYD.out] at hu
      simp only [Cm.val] at hu
      have HU := Lib.hid hu
      clear hu
      refine HU.out.mono ?_
      rintro e w7 ⟨v7, he, hv7, hc7, hk7⟩
      obtain ⟨A7, c7, rfl, _, _, _⟩ := id hv7
      simp only [Cm.val] at he
      subst he
      have HLS7 := Lib.hid (HLS6.out.k2 hk7 hc7 HG2.out HNE.out)
      have HV7 := Lib.hid hv7
      clear hv7 hc7 hk7 HU
      clear h0 h1 h2 h3 h4 h5 h6 h7 h8
      have y1 : b < w7.heap.size := Nat.lt_of_lt_of_le hb HLS7.out.b.size
      have y2 : b ≠ w7.heap.size := by omega
      have y3 : w7.heap.size ≠ b := by omega
      go_wp2_with fail
      have o1 : Okc (S.next Y.data) (q + 1) := HO.out.next _ (fun h => by rw [HYD.out]; exact agY_8 S X q h)
      have HO1 := Lib.hid o1
      have hk1 := fun W (h : CH W g1 (S.next Y.data)) => pcount_any g1 _ W h
      have hk2 := fun W (h : CH W g2 (S.next Y.data)) => pcount_any g2 _ W h
      rw [o1.cv, o1.cnt] at hk1 hk2
      have HK1 : Hid (∀ W, CH W g1 (S.next Y.data) → Calls Tryd.prog 13 #[.pointer (some ⟨g1, 0, none⟩)] W fun e w' => e = .returned (.int .i64 ((q : Int) + 1)) ∧ W = w') := hk1
      have HK2 : Hid (∀ W, CH W g2 (S.next Y.data) → Calls Tryd.prog 13 #[.pointer (some ⟨g2, 0, none⟩)] W fun e w' => e = .returned (.int .i64 ((q : Int) + 1)) ∧ W = w') := hk2
      clear o1 hk1 hk2 y1 y2 y3
      have hy8 := heap_alloc_new w7 (Obj.cells #[.int .i64 X.cla, .int .i64 X.ins, .int .i64 X.p1, .int .i64 X.p2, .slice A7 X.data.length c7, .int .i64 X.le, .bool Y.long] 30)
      have HLS8 := Lib.hid (HLS7.out.al (Obj.cells #[.int .i64 X.cla, .int .i64 X.ins, .int .i64 X.p1, .int .i64 X.p2, .slice A7 X.data.length c7, .int .i64 X.le, .bool Y.long] 30))
      have HV8 := Lib.hid (HV7.out.on (alloc_below w7 (Obj.cells #[.int .i64 X.cla, .int .i64 X.ins, .int .i64 X.p1, .int .i64 X.p2, .slice A7 X.data.length c7, .int .i64 X.le, .bool Y.long] 30)))
      generalize w7.alloc (Obj.cells #[.int .i64 X.cla, .int .i64 X.ins, .int .i64 X.p1, .int .i64 X.p2, .slice A7 X.data.length c7, .int .i64 X.le, .bool Y.long] 30) = w8 at *
      have HY8 := Lib.hid hy8
      obtain ⟨n0, n1, n2, n3, ⟨Au, ku, n4, nsx⟩, n5, n6, ⟨Av, kv, n7, nsr⟩, n8⟩ := HTN.out w8 HLS8.out.b
      simp only at n0 n1 n2 n3 n4 n5 n6 n7 n8 nsx nsr
      have hb8 : b < w8.heap.size := Nat.lt_of_lt_of_le hb HLS8.out.b.size
      have HSS : Hid (∀ W, Below w8.heap.size w8 W → (fun W : World => W.cell? ⟨w7.heap.size, 0, none⟩ = some (.int .i64 X.cla) ∧ W.cell? ⟨w7.heap.size, 1, none⟩ = some (.int .i64 X.ins) ∧ W.cell? ⟨w7.heap.size, 2, none⟩ = some (.int .i64 X.p1) ∧ W.cell? ⟨w7.heap.size, 3, none⟩ = some (.int .i64 X.p2) ∧ W.cell? ⟨w7.heap.size, 4, none⟩ = some (.slice A7 X.data.length c7) ∧ W.cell? ⟨w7.heap.size, 5, none⟩ = some (.int .i64 X.le) ∧ W.cell? ⟨w7.heap.size, 6, none⟩ = some (.bool Y.long) ∧ W.cell? ⟨b, o + j * 9, none⟩ = some (.int .i64 X.cla) ∧ W.cell? ⟨b, o + j * 9 + 1, none⟩ = some (.int .i64 X.ins) ∧ W.cell? ⟨b, o + j * 9 + 2, none⟩ = some (.int .i64 X.p1) ∧ W.cell? ⟨b, o + j * 9 + 3, none⟩ = some (.int .i64 X.p2) ∧ W.cell? ⟨b, o + j * 9 + 4, none⟩ = some (.slice Au X.data.length ku) ∧ W.cell? ⟨b, o + j * 9 + 5, none⟩ = some (.int .i64 X.le) ∧ W.cell? ⟨b, o + j * 9 + 6, none⟩ = some (.bool X.long)) W) := fun W hW => by
        obtain ⟨⟨e0, e1, e2, e3, e4, e5, e6⟩, _⟩ := cells7 ((hW.block _ (blk_lt HY8.out)).trans HY8.out)
        exact ⟨e0, e1, e2, e3, e4, e5, e6, (hW.cell (p := ⟨b, o + j * 9, none⟩) hb8).trans n0, (hW.cell (p := ⟨b, o + j * 9 + 1, none⟩) hb8).trans n1, (hW.cell (p := ⟨b, o + j * 9 + 2, none⟩) hb8).trans n2, (hW.cell (p := ⟨b, o + j * 9 + 3, none⟩) hb8).trans n3, (hW.cell (p := ⟨b, o + j * 9 + 4, none⟩) hb8).trans n4, (hW.cell (p := ⟨b, o + j * 9 + 5, none⟩) hb8).trans n5, (hW.cell (p := ⟨b, o + j * 9 + 6, none⟩) hb8).trans n6⟩
      have HAL := Lib.hid (fun W (hW : Below w8.heap.size w8 W) => alike_eq X.cla X.ins X.p1 X.p2 X.data X.le Y.long X.long (.slice A7 X.data.length c7) (.slice Au X.data.length ku) W (HV8.out.on hW) ((nsx.more HLS8.out.b.size).on hW))
      obtain ⟨q0, q1, q2, q3, q4, q5, q6, r0, r1, r2, r3, r4, r5, r6⟩ := HSS.out w8 (Below.refl _ _)
      clear hy8 nsx nsr n0 n1 n2 n3 n4 n5 n6
      have hal1 := HAL.out w8 (Below.refl _ _)
      have hal2 := HAL.out w8.drew (Below.refl _ _).drew
      simp only [Cm.val] at hal1 hal2
      have HAL1 := Lib.hid hal1
      have HAL2 := Lib.hid hal2
      clear hal1 hal2 HAL
      have hS6 : True := trivial
      go_region_held3 (fun W : World => W.cell? ⟨w7.heap.size, 0, none⟩ = some (.int .i64 X.cla) ∧ W.cell? ⟨w7.heap.size, 1, none⟩ = some (.int .i64 X.ins) ∧ W.cell? ⟨w7.heap.size, 2, none⟩ = some (.int .i64 X.p1) ∧ W.cell? ⟨w7.heap.size, 3, none⟩ = some (.int .i64 X.p2) ∧ W.cell? ⟨w7.heap.size, 4, none⟩ = some (.slice A7 X.data.length c7) ∧ W.cell? ⟨w7.heap.size, 5, none⟩ = some (.int .i64 X.le) ∧ W.cell? ⟨w7.heap.size, 6, none⟩ = some (.bool Y.long) ∧ W.cell? ⟨b, o + j * 9, none⟩ = some (.int .i64 X.cla) ∧ W.cell? ⟨b, o + j * 9 + 1, none⟩ = some (.int .i64 X.ins) ∧ W.cell? ⟨b, o + j * 9 + 2, none⟩ = some (.int .i64 X.p1) ∧ W.cell? ⟨b, o + j * 9 + 3, none⟩ = some (.int .i64 X.p2) ∧ W.cell? ⟨b, o + j * 9 + 4, none⟩ = some (.slice Au X.data.length ku) ∧ W.cell? ⟨b, o + j * 9 + 5, none⟩ = some (.int .i64 X.le) ∧ W.cell? ⟨b, o + j * 9 + 6, none⟩ = some (.bool X.long))
        (first | (go_keep; done) | exact hS6)
        (first
          | (go_at_call 12; (with_reducible refine HAL1.out.mono ?_); rintro e w9 ⟨rfl, hb9⟩; have HLS9 := Lib.hid (HLS8.out.on hb9); have HB9 := Lib.hid hb9; have hS6 := HSS.out w9 hb9)
          | (go_at_call 12; (with_reducible refine HAL2.out.mono ?_); rintro e w9 ⟨rfl, hb9⟩; have HLS9 := Lib.hid ((HLS8.out.on (Below.refl _ _).drew).on hb9); have HB9 := Lib.hid ((Below.refl w8.heap.size w8).drew.trans hb9); have hS6 := HSS.out w9 ((Below.refl w8.heap.size w8).drew.trans hb9))
          | (go_at_call 13; (with_reducible refine (HK1.out _ HLS9.out.c1).mono ?_); rintro e wx ⟨rfl, rfl⟩; have hS6 := HSS.out w9 HB9.out)
          | (go_at_call 13; (with_reducible refine (HK2.out _ HLS9.out.c2).mono ?_); rintro e wx ⟨rfl, rfl⟩; have hS6 := HSS.out w9 HB9.out)
          | fail "none")
      clear q0 q1 q2 q3 q4 q5 q6 r0 r1 r2 r3 r4 r5 r6 n7 n8 hb8 HAL1 HAL2 HSS HK1 HK2 HY8 hS6
      obtain ⟨n0, n1, n2, n3, ⟨Aw, kw, n4, nsx⟩, n5, n6, ⟨Ar9, kr9, n7, nsr⟩, n8⟩ := HTN.out w9 HLS9.out.b
      simp only at n0 n1 n2 n3 n4 n5 n6 n7 n8 nsx nsr
      have HNR := Lib.hid (nsr.more HLS9.out.b.size)
      clear n0 n1 n2 n3 n4 n5 n6 nsx nsr
      by_cases hK : ckE (S.next Y.data) R = 0
      case neg =>
        have hK1 : ckE (S.next Y.data) R = 1 := by
          have hx : (S.next Y.data).exp = true := rfl
          unfold ckE at hK ⊢
          rw [hx, if_neg (by simp)] at hK ⊢
          split at hK
          · rename_i h; rw [if_pos h]
          · exact absurd rfl hK
        have hw := as_bad HO1.out hK g2 Ar9 R.data.length kr9 w9 HLS9.out.c2 (ET.on HET.out HLS9.out.b)
        rw [hK1] at hw
        simp only [Rs.val] at hw
        have HW := Lib.hid hw
        clear hw hK hK1
        go_wp2_with fail
        refine HW.out.mono ?_
        rintro e w10 ⟨rfl, hb10⟩
        have HLS10 := Lib.hid ((HLS9.out.on hb10).al (Obj.cells #[.slice none 0 0, .int .i64 0] 32))
        clear hb10
        go_wp2_with fail
        refine (awake_any _).mono ?_
        rintro e w11 ⟨rfl, hb11⟩
        have HLS11 := Lib.hid (HLS10.out.on hb11)
        clear hb11
        go_wp2_with fail
        go_ret
        exact ⟨rfl, HLS11.out.b⟩
      have HKZ := Lib.hid hK
      clear hK
      have hw := as_seal HO1.out (by omega) HKZ.out (by omega) g2 Ar9 kr9 w9 HLS9.out.c2 HNR.out
      obtain ⟨V, hV⟩ : ∃ V, V = asY (S.next Y.data) R (q + 1) := ⟨_, rfl⟩
      rw [← hV] at hw
      have HVD := Lib.hid hV
      simp only [Rs.val] at hw
      have HW := Lib.hid hw
      clear hw hV
      go_wp2_with fail
      refine HW.out.mono ?_
      rintro e w10 ⟨v10, he, hv10, hc10, hk10⟩
      obtain ⟨A10, c10, rfl, _, _, _⟩ := id hv10
      simp only [Rs.val] at he
      subst he
      have HLS10 := Lib.hid (HLS9.out.k2 hk10 hc10 HG2.out HNE.out)
      have HV10 := Lib.hid hv10
      clear hv10 hc10 hk10 HW n7 n8
      go_wp2_with fail
      have HLS11 := Lib.hid (HLS10.out.al (Obj.cells #[.slice A10 V.data.length c10, .int .i64 V.sw] 32))
      have HV11 := Lib.hid (HV10.out.on (alloc_below w10 (Obj.cells #[.slice A10 V.data.length c10, .int .i64 V.sw] 32)))
      generalize w10.alloc (Obj.cells #[.slice A10 V.data.length c10, .int .i64 V.sw] 32) = w11 at *
      have hu := as_open HO1.out (by omega) HKZ.out (by omega) g1 A10 c10 w11 HLS11.out.c1 (by rw [← HVD.out]; exact HV11.out)
      rw [← HVD.out] at hu
      simp only [Rs.val] at hu
      have HU := Lib.hid hu
      clear hu
      refine HU.out.mono ?_
      rintro e w12 ⟨v12, he, hv12, hc12, hk12⟩
      obtain ⟨A12, c12, rfl, _, _, _⟩ := id hv12
      simp only [Rs.val] at he
      subst he
      have HLS12 := Lib.hid (HLS11.out.k1 hk12 hc12 HG1.out HNE.out)
      have HV12 := Lib.hid hv12
      clear hv12 hc12 hk12 HU
      go_wp2_with fail
      have hy13 := heap_alloc_new w12 (Obj.cells #[.slice A12 R.data.length c12, .int .i64 R.sw] 32)
      have HLS13 := Lib.hid (HLS12.out.al (Obj.cells #[.slice A12 R.data.length c12, .int .i64 R.sw] 32))
      have HV13 := Lib.hid (HV12.out.on (alloc_below w12 (Obj.cells #[.slice A12 R.data.length c12, .int .i64 R.sw] 32)))
      generalize w12.alloc (Obj.cells #[.slice A12 R.data.length c12, .int .i64 R.sw] 32) = w13 at *
      have HY13 := Lib.hid hy13
      obtain ⟨n0, n1, n2, n3, ⟨Ax2, kx2, n4, nsx⟩, n5, n6, ⟨Ay, ky, n7, nsr⟩, n8⟩ := HTN.out w13 HLS13.out.b
      simp only at n0 n1 n2 n3 n4 n5 n6 n7 n8 nsx nsr
      have hb13 : b < w13.heap.size := Nat.lt_of_lt_of_le hb HLS13.out.b.size
      have HSS : Hid (∀ W, Below w13.heap.size w13 W → (fun W : World => W.cell? ⟨w12.heap.size, 0, none⟩ = some (.slice A12 R.data.length c12) ∧ W.cell? ⟨w12.heap.size, 1, none⟩ = some (.int .i64 R.sw) ∧ W.cell? ⟨b, o + j * 9 + 7, none⟩ = some (.slice Ay R.data.length ky) ∧ W.cell? ⟨b, o + j * 9 + 8, none⟩ = some (.int .i64 R.sw)) W) := fun W hW => by
        obtain ⟨⟨e0, e1⟩, _⟩ := cells2 ((hW.block _ (blk_lt HY13.out)).trans HY13.out)
        exact ⟨e0, e1, (hW.cell (p := ⟨b, o + j * 9 + 7, none⟩) hb13).trans n7, (hW.cell (p := ⟨b, o + j * 9 + 8, none⟩) hb13).trans n8⟩
      have hal1 := rsamer_eq R (.slice A12 R.data.length c12) (.slice Ay R.data.length ky) w13 HV13.out (nsr.more HLS13.out.b.size)
      have hal2 := rsamer_eq R (.slice A12 R.data.length c12) (.slice Ay R.data.length ky) w13.drew (HV13.out.on (Below.refl _ _).drew) ((nsr.more HLS13.out.b.size).on (Below.refl _ _).drew)
      simp only [Rs.val] at hal1 hal2
      have HAL1 := Lib.hid hal1
      have HAL2 := Lib.hid hal2
      obtain ⟨q0, q1, r0, r1⟩ := HSS.out w13 (Below.refl _ _)
      clear hy13 nsx nsr n0 n1 n2 n3 n4 n5 n6 n7 n8 hal1 hal2
      have hS6 : True := trivial
      go_region_held3 (fun W : World => W.cell? ⟨w12.heap.size, 0, none⟩ = some (.slice A12 R.data.length c12) ∧ W.cell? ⟨w12.heap.size, 1, none⟩ = some (.int .i64 R.sw) ∧ W.cell? ⟨b, o + j * 9 + 7, none⟩ = some (.slice Ay R.data.length ky) ∧ W.cell? ⟨b, o + j * 9 + 8, none⟩ = some (.int .i64 R.sw))
        (first | (go_keep; done) | exact hS6)
        (first
          | (go_at_call 16; (with_reducible refine HAL1.out.mono ?_); rintro e w14 ⟨rfl, hb14⟩; have HLS14 := Lib.hid (HLS13.out.on hb14); have hS6 := HSS.out w14 hb14)
          | (go_at_call 16; (with_reducible refine HAL2.out.mono ?_); rintro e w14 ⟨rfl, hb14⟩; have HLS14 := Lib.hid ((HLS13.out.on (Below.refl _ _).drew).on hb14); have hS6 := HSS.out w14 ((Below.refl w13.heap.size w13).drew.trans hb14))
          | fail "none")
      go_wp2_with fail
      go_roundw
      case rel => exact ⟨j + 1, q + 1, (S.next Y.data).quiet, by omega, by go_num, by go_num, by omega, ⟨HO1.out.enc, HO1.out.mac, HO1.out.rmac, HO1.out.dat, HO1.out.cv, HO1.out.cnt, HO1.out.cls⟩, HLV.out, HLS14.out⟩
      case measure => simp [intOf]; omega
end Go.Proofs.YtdalcldilmmgmaaDoor
