/-
  The walks of seal and Seal where no response is expected, and of shut.
  The walk of shut.
  Wrap in one contract, whether it gives a command or an error; two sides, boxes and data that calls on sides keep.
  Two protected commands one after the other: which of them a side accepts.
-/
import Derived.Test.YtdalcldilmmgmaaDoorMge
import Derived.Test.YtdalcldilmmgmaaDoorLsz
namespace Go.Proofs.YtdalcldilmmgmaaDoor
set_option linter.unusedVariables false
set_option linter.unusedSimpArgs false
open Go.RowKit


theorem row2st {W : World} {b : Nat} {x0 x1 : Value} {t : TypeId} (h : W.heap[b]? = some (.cells #[x0, x1] t (0, 0))) (y0 y1 : Value) :
    ((W.setCell ⟨b, 0, none⟩ y0).setCell ⟨b, 1, none⟩ y1).heap[b]? = some (.cells #[y0, y1] t (0, 0)) := by
  have h0 : (W.setCell ⟨b, 0, none⟩ y0).heap[b]? = some (.cells #[y0, x1] t (0, 0)) := heap_setCell_same _ b 0 _ _ y0 h
  exact heap_setCell_same _ b 1 _ _ y1 h0
theorem BP.st2 {B : Nat} {w W : World} (h : BP B w W) {b : Nat} (hb : B ≤ b) (y0 y1 : Value) : BP B w ((W.setCell ⟨b, 0, none⟩ y0).setCell ⟨b, 1, none⟩ y1) := (h.st hb 0 y0).st hb 1 y1
theorem cells2 {W : World} {b : Nat} {x0 x1 : Value} {t : TypeId} (h : W.heap[b]? = some (.cells #[x0, x1] t (0, 0))) : (W.cell? ⟨b, 0, none⟩ = some x0 ∧ W.cell? ⟨b, 1, none⟩ = some x1) ∧ (W.frozen? ⟨b, 0, none⟩ = false ∧ W.frozen? ⟨b, 1, none⟩ = false) :=
  ⟨⟨cell_of_row _ _ 0 _ _ _ h, cell_of_row _ _ 1 _ _ _ h⟩, frozen_of_row _ _ 0 _ _ h, frozen_of_row _ _ 1 _ _ h⟩
set_option maxRecDepth 100000 in
set_option maxHeartbeats 1600000 in
theorem pseal_bad (g : Nat) (s : Ch) (r : Rs) (A : Option Addr) (n k : Nat) (w : World) (h : CH w g s) (hE : ckE s r ≠ 0) :
    Calls Tryd.prog 32 #[.pointer (some ⟨g, 0, none⟩), r.val (.slice A n k)] w fun e w' => e = .returned (.tuple #[(⟨[], 0⟩ : Rs).val (.slice none 0 0), errV (ckE s r)]) ∧ Below w.heap.size w w' := by
  have hc := fun W (hW : Below w.heap.size w W) => pcheck_any g s r A n k W (h.below hW)
  rw [erV, if_neg hE] at hc
  obtain ⟨rd, sw⟩ := r
  simp only [Rs.val] at *
  unfold errV at *
  have hb := alloc2_below w (Obj.cells #[.slice A n k, .int .i64 sw] 32) (Obj.cells #[.slice none 0 0, .int .i64 0] 32)
  have HB := Lib.hid hb
  have HC := Lib.hid (hc _ hb)
  have HN1 := Lib.hid (heap_alloc2_old w (Obj.cells #[.slice A n k, .int .i64 sw] 32) (Obj.cells #[.slice none 0 0, .int .i64 0] 32))
  have HN2 := Lib.hid (heap2_new w (Obj.cells #[.slice A n k, .int .i64 sw] 32) (Obj.cells #[.slice none 0 0, .int .i64 0] 32))
  clear hc hb h hE
  go_enter Tryd.func32, Tryd.ntmps32
  go_wp2_with fail
  refine HC.out.mono ?_
  rintro e w3 ⟨rfl, hb3⟩
  have HN3 := Lib.hid ((hb3.block _ (blk_lt HN2.out)).trans HN2.out)
  have HB3 := Lib.hid (BP.mk (HB.out.trans (hb3.mono HB.out.size)) (Nat.le_trans HB.out.size hb3.size))
  obtain ⟨⟨t0, t1⟩, f0, f1⟩ := cells2 HN3.out
  clear hb3
  go_wp2_with fail
  exact bodyPost_ret (results_cell2 rfl _ _ (w.heap.size + 1) 32 #[.slice none 0 0, .int .i64 0] (0, 0) _ rfl (row2st HN3.out ..) Tryd.underlying32 rfl (by kernel_rfl)) rfl ⟨rfl, (HB3.out.st2 (Nat.le_succ _) ..).b⟩
set_option maxRecDepth 100000 in
set_option maxHeartbeats 3200000 in
theorem pSeal_bad (g : Nat) (s : Ch) (r : Rs) (E : Int) (A : Option Addr) (n k : Nat) (w : World) (h : CH w g s) (hv : s.cv.length = 8) (ht : ET w) (hE : E ≠ 0)
    (hw : ∀ W, Below w.heap.size w W → Calls Tryd.prog 32 #[.pointer (some ⟨g, 0, none⟩), r.val (.slice A n k)] W fun e w' => e = .returned (.tuple #[(⟨[], 0⟩ : Rs).val (.slice none 0 0), errV E]) ∧ Below W.heap.size W w') :
    Calls Tryd.prog 14 #[.pointer (some ⟨g, 0, none⟩), r.val (.slice A n k)] w fun e w' => e = .returned (.tuple #[(⟨[], 0⟩ : Rs).val (.slice none 0 0), .int .i64 E]) ∧ Below w.heap.size w w' := by
  have hm := fun W (hW : Below w.heap.size w W) => pmade_any g s W (h.below hW)
  rw [hv, show decide (0 < 8) = true from rfl] at hm
  have hco := fun W (hW : Below w.heap.size w W) => pcode_any E W (ht.on hW)
  unfold errV at *
  obtain ⟨rd, sw⟩ := r
  simp only [Rs.val] at *
  have hb := alloc2_below w (Obj.cells #[.slice A n k, .int .i64 sw] 32) (Obj.cells #[.slice none 0 0, .int .i64 0] 32)
  have HB := Lib.hid hb
  have HM := Lib.hid (hm _ hb)
  have HW := Lib.hid (hw _ hb)
  have HN2 := Lib.hid (heap2_new w (Obj.cells #[.slice A n k, .int .i64 sw] 32) (Obj.cells #[.slice none 0 0, .int .i64 0] 32))
  have HCO := Lib.hid hco
  have hne : (E != 0) = true := by rw [bne_iff_ne]; exact hE
  clear h hv hw hm hb ht hco
  go_enter Tryd.func14, Tryd.ntmps14
  go_wp2_with (go_at_call 25; refine HM.out.mono ?_; rintro e w' ⟨rfl, rfl⟩)
  refine HW.out.mono ?_
  rintro e w4 ⟨rfl, hb4⟩
  have HB4 := Lib.hid (HB.out.trans (hb4.mono HB.out.size))
  have HN4 := Lib.hid ((hb4.block _ (blk_lt HN2.out)).trans HN2.out)
  clear hb4
  have HA := Lib.hid (alloc_below w4 (Obj.cells #[.slice none 0 0, .int .i64 0] 32))
  have HBA := Lib.hid (HB4.out.trans (HA.out.mono HB4.out.size))
  go_wp2_with fail
  refine (HCO.out _ HBA.out).mono ?_
  rintro e w5 ⟨rfl, hb5⟩
  have HP5 : Hid (BP w.heap.size w w5) := (BP.mk HBA.out HBA.out.size).on hb5
  have HN5 := Lib.hid (rowC hb5 (rowC HA.out HN4.out))
  obtain ⟨⟨t0, t1⟩, f0, f1⟩ := cells2 HN5.out
  clear hb5
  go_wp2_with fail
  exact bodyPost_ret (results_cell2 rfl _ _ (w.heap.size + 1) 32 #[.slice none 0 0, .int .i64 0] (0, 0) _ rfl (row2st HN5.out ..) Tryd.underlying32 rfl (by kernel_rfl)) rfl ⟨rfl, (HP5.out.st2 (Nat.le_succ _) ..).b⟩
/-- Seal of a side that is closed. -/
theorem pSeal_shut (g : Nat) (s : Ch) (r : Rs) (A : Option Addr) (n k : Nat) (w : World) (h : CH w g s.shut) (hv : s.cv.length = 8) (ht : ET w) :
    Calls Tryd.prog 14 #[.pointer (some ⟨g, 0, none⟩), r.val (.slice A n k)] w fun e w' => e = .returned (.tuple #[(⟨[], 0⟩ : Rs).val (.slice none 0 0), .int .i64 14]) ∧ Below w.heap.size w w' := by
  have hc : ckE s.shut r = 14 := rfl
  refine pSeal_bad g s.shut r 14 A n k w h hv ht (by decide) (fun W hW => ?_)
  have := pseal_bad g s.shut r A n k W (h.below hW) (by rw [hc]; decide)
  rw [hc] at this
  exact this
/-- Unwrap and Wrap of a side that is closed. -/
theorem pUnwrap_shut (g : Nat) (s : Ch) (x : Cm) (A : Option Addr) (k : Nat) (w : World) (h : CH w g s.shut) (hv : s.cv.length = 8) (ht : ET w) (hle : -9223372036854775808 ≤ x.le ∧ x.le ≤ 9223372036854775807) :
    Calls Tryd.prog 11 #[.pointer (some ⟨g, 0, none⟩), x.val (.slice A x.data.length k)] w fun e w' => e = .returned (.tuple #[Cm.zero.val (.slice none 0 0), .int .i64 14]) ∧ CH w' g s.shut ∧ Kb g w w' := by
  have hc : clE s.shut x = 14 := rfl
  have hu : unE s.shut x = 14 := by rw [unE_cl (by rw [hc]; decide), hc]
  refine pUnwrap_bad g s.shut x 14 A x.data.length k w h hv ht (by decide) (fun W hW => ?_)
  have := punwrap_bad g s.shut x A k W (h.below hW) hle (by rw [hu]; decide)
  rw [hu] at this
  exact this
theorem pWrap_shut (g : Nat) (s : Ch) (x : Cm) (A : Option Addr) (k : Nat) (w : World) (h : CH w g s.shut) (hv : s.cv.length = 8) (ht : ET w) (hle : -9223372036854775808 ≤ x.le ∧ x.le ≤ 9223372036854775807) :
    Calls Tryd.prog 10 #[.pointer (some ⟨g, 0, none⟩), x.val (.slice A x.data.length k)] w fun e w' => e = .returned (.tuple #[Cm.zero.val (.slice none 0 0), .int .i64 14]) ∧ Below w.heap.size w w' := by
  have hc : clE s.shut x = 14 := rfl
  have hu : wrE s.shut x = 14 := by rw [wrE_cl (by rw [hc]; decide), hc]
  refine pWrap_bad g s.shut x 14 A x.data.length k w h hv ht (by decide) (fun W hW => ?_)
  have := pwrap_bad g s.shut x A k W (h.below hW) hle (by rw [hu]; decide)
  rw [hu] at this
  exact this
--B



set_option maxRecDepth 100000 in
set_option maxHeartbeats 1600000 in
theorem shut_any (g : Nat) (s : Ch) (x : Cm) (A : Option Addr) (k : Nat) (w : World) (h : CH w g s.shut) (hg : 0 < g) (hv : s.cv.length = 8) (ht : ET w) (hle : -9223372036854775808 ≤ x.le ∧ x.le ≤ 9223372036854775807) :
    Calls Tryd.prog 20 #[.pointer (some ⟨g, 0, none⟩), x.val (.slice A x.data.length k)] w fun e w' => e = .returned (.bool true) ∧ CH w' g s.shut ∧ Kb g w w' := by
  have hun := fun W (hW : CH W g s.shut) (hE : ET W) => pUnwrap_shut g s x A k W hW hv hE hle
  have hse := fun W sw B n j (hW : CH W g s.shut) (hE : ET W) => pSeal_shut g s ⟨[], sw⟩ B n j W hW hv hE
  have hlv := fun W (hW : CH W g s.shut) => plevel_any g s.shut W hW
  have hda := fun W (hW : CH W g s.shut) => pdata_any g s.shut W hW (Nat.zero_le _)
  have e8 : s.shut.cv.length = 8 := hv
  rw [e8] at hlv hda
  have HUN := Lib.hid hun
  have HSE := Lib.hid hse
  have HLV : Hid (∀ W, CH W g s.shut → Calls Tryd.prog 17 #[.pointer (some ⟨g, 0, none⟩)] W fun e w' => e = .returned (.int .i64 0) ∧ W = w') := hlv
  have HDA : Hid (∀ W, CH W g s.shut → Calls Tryd.prog 21 #[.pointer (some ⟨g, 0, none⟩)] W fun e w' => (∃ v', e = .returned v' ∧ SL w' w'.heap.size v' []) ∧ Below W.heap.size W w') := hda
  have hb := alloc_below w (Obj.cells #[.int .i64 x.cla, .int .i64 x.ins, .int .i64 x.p1, .int .i64 x.p2, .slice A x.data.length k, .int .i64 x.le, .bool x.long] 30)
  have hn := heap_alloc_new w (Obj.cells #[.int .i64 x.cla, .int .i64 x.ins, .int .i64 x.p1, .int .i64 x.p2, .slice A x.data.length k, .int .i64 x.le, .bool x.long] 30)
  have HB := Lib.hid hb
  have HN := Lib.hid hn
  have HC := Lib.hid (h.below hb)
  have HE := Lib.hid (ht.on hb)
  have HLT := Lib.hid h.lt
  clear hun hse hlv hda h hle ht e8
  unfold Cm.val Cm.zero at *
  simp only [Rs.val] at *
  go_enter Tryd.func20, Tryd.ntmps20
  go_wp2_with fail
  refine (HUN.out _ HC.out HE.out).mono ?_
  rintro e w3 ⟨rfl, hc3, hk3⟩
  have HC3 := Lib.hid hc3
  have HK3 := Lib.hid ((Kb.of_below HB.out).trans hk3)
  have HE3 := Lib.hid (HE.out.kb hk3 (by omega))
  clear hc3 hk3
  go_wp2_with fail
  have hb4 := alloc_below w3 (Obj.cells #[.int .i64 0, .int .i64 0, .int .i64 0, .int .i64 0, .slice none 0 0, .int .i64 0, .bool false] 30)
  have HS4 := Lib.hid (HSE.out _ 36864 none 0 0 (HC3.out.below hb4) (HE3.out.on hb4))
  have HC4 := Lib.hid (HC3.out.below hb4)
  have HK4 := Lib.hid (HK3.out.trans (Kb.of_below hb4))
  generalize w3.alloc (Obj.cells #[.int .i64 0, .int .i64 0, .int .i64 0, .int .i64 0, .slice none 0 0, .int .i64 0, .bool false] 30) = w4 at *
  clear hb4
  refine HS4.out.mono ?_
  rintro e w5 ⟨rfl, hb5⟩
  have HC5 := Lib.hid ((HC4.out.below hb5).below (alloc_below w5 (Obj.cells #[.slice none 0 0, .int .i64 0] 32)))
  have HK5 := Lib.hid ((HK4.out.trans (Kb.of_below hb5)).trans (Kb.of_below (alloc_below w5 (Obj.cells #[.slice none 0 0, .int .i64 0] 32))))
  clear hb5
  go_wp2_with (first
    | (go_at_call 17; refine (HLV.out _ HC5.out).mono ?_; rintro e w6 ⟨rfl, rfl⟩)
    | fail "none")
  refine (HDA.out _ HC5.out).mono ?_
  rintro e w6 ⟨⟨v6, rfl, hv6⟩, hb6⟩
  obtain ⟨A6, c6, rfl, _, _, _⟩ := id hv6
  have HC6 := Lib.hid (HC5.out.below hb6)
  have HK6 := Lib.hid (HK5.out.trans (Kb.of_below hb6))
  clear hb6 hv6
  go_wp2_with fail
  go_ret
  exact ⟨rfl, HC6.out, HK6.out⟩



/-- What Wrap gives, what it leaves, and how many it has counted then. -/
def wgY (s : Ch) (x : Cm) (n : Nat) : Cm := if wrE s x = 0 then wrY s x n else Cm.zero
def wgS (s : Ch) (x : Cm) (n : Nat) : Ch := if wrE s x = 0 then s.next (wrY s x n).data else s
def wgN (s : Ch) (x : Cm) (n : Nat) : Nat := if wrE s x = 0 then n + 1 else n
theorem wgS_ok {s : Ch} {n : Nat} (o : Okc s n) (x : Cm) : Okc (wgS s x n) (wgN s x n) := by
  unfold wgS wgN
  by_cases h : wrE s x = 0
  · rw [if_pos h, if_pos h]
    exact o.next _ (fun _ => by have : (wrY s x n).data.length = (wrB s x n).length + 8 := wrD_len s x n; omega)
  · rw [if_neg h, if_neg h]
    exact o
theorem wgS_lvl (s : Ch) (x : Cm) (n : Nat) : (wgS s x n).lvl = s.lvl := by
  unfold wgS
  split <;> rfl
theorem pWrap_gen (g : Nat) (s : Ch) (x : Cm) (A : Option Addr) (k n : Nat) (w : World) (h : CH w g s) (ht : ET w) (o : Okc s n) (hn : n ≤ 1000) (hL : hasB s.lvl 1 = true) (hle : -9223372036854775808 ≤ x.le ∧ x.le ≤ 9223372036854775807) (hd : SL w w.heap.size (.slice A x.data.length k) x.data) (hl : x.data.length ≤ 1984) :
    Calls Tryd.prog 10 #[.pointer (some ⟨g, 0, none⟩), x.val (.slice A x.data.length k)] w fun e w' => ∃ v, e = .returned (.tuple #[(wgY s x n).val v, .int .i64 (wrE s x)]) ∧ SL w' w'.heap.size v (wgY s x n).data ∧ CH w' g (wgS s x n) ∧ Kb g w w' := by
  unfold wgY wgS
  by_cases hE : wrE s x = 0
  · rw [if_pos hE, if_pos hE, hE]
    exact pWrap_mac g s x A k n w h o hn hL hE hd hl
  · rw [if_neg hE, if_neg hE]
    refine (pWrap_no g s x A k n w h ht o hle hE).mono ?_
    rintro e w' ⟨he, hb⟩
    exact ⟨_, he, (FL.nil g w').sl, h.below hb, Kb.of_below hb⟩

/-- A box, two commands' boxes with their data, and a side. -/
structure OnS (w W : World) (bx bY g2 : Nat) (SO XO YO : Obj) (vx vy : Value) (dx dy : List UInt8) (s2 : Ch) : Prop where
  b : Below w.heap.size w W
  rs : W.heap[w.heap.size]? = some SO
  rx : W.heap[bx]? = some XO
  ry : W.heap[bY]? = some YO
  sx : SL W W.heap.size vx dx
  sy : SL W W.heap.size vy dy
  c : CH W g2 s2
section
variable {w W W2 : World} {bx bY g2 g3 : Nat} {SO XO YO : Obj} {vx vy : Value} {dx dy : List UInt8} {s2 s3 s4 : Ch}
theorem OnS.on (h : OnS w W bx bY g2 SO XO YO vx vy dx dy s2) (hb : Below W.heap.size W W2) : OnS w W2 bx bY g2 SO XO YO vx vy dx dy s2 :=
  ⟨h.b.trans (hb.mono h.b.size), (hb.block _ (blk_lt h.rs)).trans h.rs, (hb.block _ (blk_lt h.rx)).trans h.rx, (hb.block _ (blk_lt h.ry)).trans h.ry, h.sx.on hb, h.sy.on hb, h.c.below hb⟩
theorem OnS.al (h : OnS w W bx bY g2 SO XO YO vx vy dx dy s2) (o : Obj) : OnS w (W.alloc o) bx bY g2 SO XO YO vx vy dx dy s2 := h.on (alloc_below W o)
theorem OnS.drn (h : OnS w W bx bY g2 SO XO YO vx vy dx dy s2) (n : Nat) : OnS w (W.drewN n) bx bY g2 SO XO YO vx vy dx dy s2 := h.on (below_drewN (Below.refl _ _) n)
/-- A call on another side. -/
theorem OnS.kb (h : OnS w W bx bY g2 SO XO YO vx vy dx dy s2) (hc : CH W g3 s3) (hk : Kb g3 W W2) (h0 : w.heap.size < g3) (h1 : bx ≠ g3) (h2 : bY ≠ g3) (h3 : g3 ≠ g2) : OnS w W2 bx bY g2 SO XO YO vx vy dx dy s2 :=
  ⟨h.b.trans (hk.below (by omega) h.b.size), (hk.block _ (blk_lt h.rs) (by omega)).trans h.rs, (hk.block _ (blk_lt h.rx) h1).trans h.rx, (hk.block _ (blk_lt h.ry) h2).trans h.ry,
   ((hc.off h.sx (Nat.le_refl _)).kb hk).sl, ((hc.off h.sy (Nat.le_refl _)).kb hk).sl, hc.other h.c h3 hk⟩
/-- A call on the side itself. -/
theorem OnS.own (h : OnS w W bx bY g2 SO XO YO vx vy dx dy s2) (hk : Kb g2 W W2) (hc : CH W2 g2 s4) (h0 : w.heap.size < g2) (h1 : bx ≠ g2) (h2 : bY ≠ g2) : OnS w W2 bx bY g2 SO XO YO vx vy dx dy s4 :=
  ⟨h.b.trans (hk.below (by omega) h.b.size), (hk.block _ (blk_lt h.rs) (by omega)).trans h.rs, (hk.block _ (blk_lt h.rx) h1).trans h.rx, (hk.block _ (blk_lt h.ry) h2).trans h.ry,
   ((h.c.off h.sx (Nat.le_refl _)).kb hk).sl, ((h.c.off h.sy (Nat.le_refl _)).kb hk).sl, hc⟩
end



/-- The first command, the state behind it, and the second command. -/
def onX (S : Ch) (a : Cm) : Cm := wrY S a 0
def onS (S : Ch) (a : Cm) : Ch := S.next (onX S a).data
def onY (S : Ch) (a b : Cm) : Cm := wrY (onS S a) b 1
theorem onX_8 (S : Ch) (a : Cm) : (onX S a).data.length = (wrB S a 0).length + 8 := wrD_len S a 0
theorem onX_le (S : Ch) (a : Cm) : (onX S a).data.length ≤ a.data.length + 16 := wrD_le S a 0
theorem onY_8 (S : Ch) (a b : Cm) : (onY S a b).data.length = (wrB (onS S a) b 1).length + 8 := wrD_len _ b 1
theorem onY_le (S : Ch) (a b : Cm) : (onY S a b).data.length ≤ b.data.length + 16 := wrD_le _ b 1
theorem onS_ok {S : Ch} (o : Okc S 0) (a : Cm) : Okc (onS S a) 1 := o.next _ (fun _ => by rw [onX_8]; omega)
theorem onS_cv {S : Ch} (hL : hasB S.lvl 1 = true) (a : Cm) : (onS S a).cv = (onX S a).data.drop ((onX S a).data.length - 8) := by
  show (if hasB S.lvl 1 = true then _ else _) = _
  rw [if_pos hL]
/-- The MAC hangs on the chaining value. -/
theorem cmF_ne {S T : Ch} (x : Cm) (b : List UInt8) (h1 : S.cv.length = 8) (h2 : T.cv.length = 8) (hm : S.mac = T.mac) (h : S.cv ≠ T.cv) : cmF S x b ≠ cmF T x b := by
  unfold cmF
  rw [hm]
  exact macL_ne h1 h2 h
section
variable {S : Ch} {a b : Cm} (o : Okc S 0) (hL : hasB S.lvl 1 = true) (hE : wrE S a = 0) (hF : wrE (onS S a) b = 0) (hla : a.data.length ≤ 600) (hlb : b.data.length ≤ 600)
  (hne : (onX S a).data.drop ((onX S a).data.length - 8) ≠ S.cv)
include o hL hE hla in
/-- The first command is accepted. -/
theorem on_first (g : Nat) (A : Option Addr) (k : Nat) (W : World) (h : CH W g S) (hd : SL W W.heap.size (.slice A (onX S a).data.length k) (onX S a).data) :
    Calls Tryd.prog 11 #[.pointer (some ⟨g, 0, none⟩), (onX S a).val (.slice A (onX S a).data.length k)] W fun e w' => ∃ (y : Cm) (A2 : Option Addr) (c2 : Nat), e = .returned (.tuple #[y.val (.slice A2 y.data.length c2), .int .i64 0]) ∧ CH w' g (onS S a) ∧ Kb g W w' := by
  have hr := rt_any S S a 0 o.enc o.cls hE (by omega)
  have := onX_le S a
  refine (pUnwrap_mac g S a (onX S a) A k 0 W h o (by omega) hL hr hd (by omega)).mono ?_
  rintro e w' ⟨v, he, hv, hc, hk⟩
  obtain ⟨A2, c2, rfl, _⟩ := id hv
  exact ⟨_, A2, c2, he, hc, hk⟩
include o hL hE hla hne in
/-- It is not accepted again. -/
theorem on_again (g : Nat) (A : Option Addr) (k : Nat) (W : World) (h : CH W g (onS S a)) (ht : ET W) (hd : SL W W.heap.size (.slice A (onX S a).data.length k) (onX S a).data) :
    Calls Tryd.prog 11 #[.pointer (some ⟨g, 0, none⟩), (onX S a).val (.slice A (onX S a).data.length k)] W fun e w' => e = .returned (.tuple #[Cm.zero.val (.slice none 0 0), .int .i64 17]) ∧ CH w' g (onS S a).shut ∧ Kb g W w' := by
  have o1 := onS_ok o a
  have hr := rt_any S (onS S a) a 0 o.enc o1.cls hE (by omega)
  have hl := onX_le S a
  refine pUnwrap_wrong g (onS S a) (onX S a) A k 1 W h ht o1 hL hr.cl hr.sec hr.l8 ?_ hd (by omega)
  have hm : (onX S a).data.drop ((onX S a).data.length - 8) = _ := hr.mac
  rw [hm]
  refine cmF_ne _ _ o.cv o1.cv rfl ?_
  rw [onS_cv hL]
  exact fun e => hne e.symm
include o hL hF hlb hne in
/-- The second one is not accepted before it. -/
theorem on_second (g : Nat) (A : Option Addr) (k : Nat) (W : World) (h : CH W g S) (ht : ET W) (hd : SL W W.heap.size (.slice A (onY S a b).data.length k) (onY S a b).data) :
    Calls Tryd.prog 11 #[.pointer (some ⟨g, 0, none⟩), (onY S a b).val (.slice A (onY S a b).data.length k)] W fun e w' => e = .returned (.tuple #[Cm.zero.val (.slice none 0 0), .int .i64 17]) ∧ CH w' g S.shut ∧ Kb g W w' := by
  have o1 := onS_ok o a
  have hr := rt_any (onS S a) S b 1 o1.enc o.cls hF (by omega)
  have hl := onY_le S a b
  refine pUnwrap_wrong g S (onY S a b) A k 0 W h ht o hL hr.cl hr.sec hr.l8 ?_ hd (by omega)
  have hm : (onY S a b).data.drop ((onY S a b).data.length - 8) = _ := hr.mac
  rw [hm]
  refine cmF_ne _ _ o1.cv o.cv rfl ?_
  rw [onS_cv hL]
  exact hne
end

end Go.Proofs.YtdalcldilmmgmaaDoor
