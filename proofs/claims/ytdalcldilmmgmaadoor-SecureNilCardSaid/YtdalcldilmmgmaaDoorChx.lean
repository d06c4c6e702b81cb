/-
  The walk of wrap with a MAC.
-/
import Derived.Test.YtdalcldilmmgmaaDoorChw
namespace Go.Proofs.YtdalcldilmmgmaaDoor
set_option linter.unusedVariables false
set_option linter.unusedSimpArgs false
open Go.RowKit

theorem cells7 {W : World} {b : Nat} {x0 x1 x2 x3 x4 x5 x6 : Value} {t : TypeId} (h : W.heap[b]? = some (.cells #[x0, x1, x2, x3, x4, x5, x6] t (0, 0))) :
    (W.cell? ⟨b, 0, none⟩ = some x0 ∧ W.cell? ⟨b, 1, none⟩ = some x1 ∧ W.cell? ⟨b, 2, none⟩ = some x2 ∧ W.cell? ⟨b, 3, none⟩ = some x3 ∧ W.cell? ⟨b, 4, none⟩ = some x4 ∧ W.cell? ⟨b, 5, none⟩ = some x5 ∧ W.cell? ⟨b, 6, none⟩ = some x6) ∧
    (W.frozen? ⟨b, 0, none⟩ = false ∧ W.frozen? ⟨b, 1, none⟩ = false ∧ W.frozen? ⟨b, 2, none⟩ = false ∧ W.frozen? ⟨b, 3, none⟩ = false ∧ W.frozen? ⟨b, 4, none⟩ = false ∧ W.frozen? ⟨b, 5, none⟩ = false ∧ W.frozen? ⟨b, 6, none⟩ = false) :=
  ⟨⟨cell_of_row _ _ 0 _ _ _ h, cell_of_row _ _ 1 _ _ _ h, cell_of_row _ _ 2 _ _ _ h, cell_of_row _ _ 3 _ _ _ h, cell_of_row _ _ 4 _ _ _ h, cell_of_row _ _ 5 _ _ _ h, cell_of_row _ _ 6 _ _ _ h⟩,
   frozen_of_row _ _ 0 _ _ h, frozen_of_row _ _ 1 _ _ h, frozen_of_row _ _ 2 _ _ h, frozen_of_row _ _ 3 _ _ h, frozen_of_row _ _ 4 _ _ h, frozen_of_row _ _ 5 _ _ h, frozen_of_row _ _ 6 _ _ h⟩
theorem cells4 {W : World} {b : Nat} {x0 x1 x2 x3 : Value} {t : TypeId} (h : W.heap[b]? = some (.cells #[x0, x1, x2, x3] t (0, 0))) :
    (W.cell? ⟨b, 0, none⟩ = some x0 ∧ W.cell? ⟨b, 1, none⟩ = some x1 ∧ W.cell? ⟨b, 2, none⟩ = some x2 ∧ W.cell? ⟨b, 3, none⟩ = some x3) ∧
    (W.frozen? ⟨b, 0, none⟩ = false ∧ W.frozen? ⟨b, 1, none⟩ = false ∧ W.frozen? ⟨b, 2, none⟩ = false ∧ W.frozen? ⟨b, 3, none⟩ = false) :=
  ⟨⟨cell_of_row _ _ 0 _ _ _ h, cell_of_row _ _ 1 _ _ _ h, cell_of_row _ _ 2 _ _ _ h, cell_of_row _ _ 3 _ _ _ h⟩,
   frozen_of_row _ _ 0 _ _ h, frozen_of_row _ _ 1 _ _ h, frozen_of_row _ _ 2 _ _ h, frozen_of_row _ _ 3 _ _ h⟩
/-- The three blocks that wrap works on. -/
structure WW (w W : World) (K : Nat) (xs ks : Array Value) : Prop where
  bp : BP w.heap.size w W
  r1 : W.heap[w.heap.size]? = some (.cells xs 30 (0, 0))
  r2 : W.heap[w.heap.size + 1]? = some (.cells #[.int .i64 0, .int .i64 0, .int .i64 0, .int .i64 0, .slice none 0 0, .int .i64 0, .bool false] 30 (0, 0))
  r3 : W.heap[K]? = some (.cells ks 77 (0, 0))
  hk : w.heap.size + 1 < K
theorem WW.on {w W W2 : World} {K : Nat} {xs ks : Array Value} (h : WW w W K xs ks) (hb : Below W.heap.size W W2) : WW w W2 K xs ks :=
  ⟨h.bp.on hb, rowC hb h.r1, rowC hb h.r2, rowC hb h.r3, h.hk⟩
theorem WW.dr {w W : World} {K : Nat} {xs ks : Array Value} (h : WW w W K xs ks) : WW w W.drew K xs ks := ⟨h.bp.dr, h.r1, h.r2, h.r3, h.hk⟩
theorem WW.c4 {w W : World} {K : Nat} {x0 x1 x2 x3 x4 x5 x6 : Value} {ks : Array Value} (h : WW w W K #[x0, x1, x2, x3, x4, x5, x6] ks) : W.cell? ⟨w.heap.size, 4, none⟩ = some x4 := cell_of_row _ _ 4 _ _ _ h.r1
theorem WW.setx {w W : World} {K : Nat} {xs ks : Array Value} (h : WW w W K xs ks) (i : Nat) (u : Value) : WW w (W.setCell ⟨w.heap.size, i, none⟩ u) K (xs.setIfInBounds i u) ks := by
  have := h.hk
  exact ⟨h.bp.st (Nat.le_refl _) i u, heap_setCell_same _ _ _ _ _ _ h.r1, (Below.heap_setCell _ _ _ _ (by show w.heap.size + 1 ≠ w.heap.size; omega)).trans h.r2, (Below.heap_setCell _ _ _ _ (by show K ≠ w.heap.size; omega)).trans h.r3, h.hk⟩
theorem WW.setk {w W : World} {K : Nat} {xs ks : Array Value} (h : WW w W K xs ks) (i : Nat) (u : Value) : WW w (W.setCell ⟨K, i, none⟩ u) K xs (ks.setIfInBounds i u) := by
  have := h.hk
  exact ⟨h.bp.st (by omega) i u, (Below.heap_setCell _ _ _ _ (by show w.heap.size ≠ K; omega)).trans h.r1, (Below.heap_setCell _ _ _ _ (by show w.heap.size + 1 ≠ K; omega)).trans h.r2, heap_setCell_same _ _ _ _ _ _ h.r3, h.hk⟩

theorem sl_set {w : World} {g : Nat} {v : Value} {l : List UInt8} {cs : Array Value} {t : TypeId} (hr : w.heap[g]? = some (.cells cs t (0, 0))) (hcs : ∀ (j : Nat) (z : Int), cs[j]? ≠ some (.int .u8 z)) (hv : SL w w.heap.size v l) (i : Nat) (u : Value) :
    SL (w.setCell ⟨g, i, none⟩ u) (w.setCell ⟨g, i, none⟩ u).heap.size v l := ((offC hr hcs hv (Nat.le_refl _)).kb ((Kb.refl _ _).set i u)).sl
theorem kl_cells (a : Int) (b c d : Bool) : ∀ (j : Nat) (z : Int), (#[Value.int .i64 a, .bool b, .bool c, .bool d] : Array Value)[j]? ≠ some (.int .u8 z) := by
  intro j z
  rcases Nat.lt_or_ge j 4 with hj | hj
  · have : j = 0 ∨ j = 1 ∨ j = 2 ∨ j = 3 := by omega
    rcases this with rfl | rfl | rfl | rfl <;> simp
  · rw [Array.getElem?_eq_none (by simp; omega)]; simp
/-- What the walk with a MAC leaves. -/
theorem mac_fin {w w10 : World} {K : Nat} {A A6 : Option Addr} {n k c6 : Nat} {cla ins p1 p2 le : Int} {long : Bool} {D : List UInt8} {ks : Array Value} (b : Bool)
    (hW : WW w w10 K #[.int .i64 cla, .int .i64 ins, .int .i64 p1, .int .i64 p2, .slice A n k, .int .i64 le, .bool long] ks) (hv : SL w10 w10.heap.size (.slice A6 D.length c6) D) :
    BP w.heap.size w (((((((((w10.setCell ⟨w.heap.size, 4, none⟩ (.slice A6 D.length c6)).setCell ⟨w.heap.size, 6, none⟩ (.bool b)).setCell ⟨w.heap.size + 1, 0, none⟩ (.int .i64 cla)).setCell ⟨w.heap.size + 1, 1, none⟩ (.int .i64 ins)).setCell ⟨w.heap.size + 1, 2, none⟩ (.int .i64 p1)).setCell ⟨w.heap.size + 1, 3, none⟩ (.int .i64 p2)).setCell ⟨w.heap.size + 1, 4, none⟩ (.slice A6 D.length c6)).setCell ⟨w.heap.size + 1, 5, none⟩ (.int .i64 le)).setCell ⟨w.heap.size + 1, 6, none⟩ (.bool b)) ∧ (((((((((w10.setCell ⟨w.heap.size, 4, none⟩ (.slice A6 D.length c6)).setCell ⟨w.heap.size, 6, none⟩ (.bool b)).setCell ⟨w.heap.size + 1, 0, none⟩ (.int .i64 cla)).setCell ⟨w.heap.size + 1, 1, none⟩ (.int .i64 ins)).setCell ⟨w.heap.size + 1, 2, none⟩ (.int .i64 p1)).setCell ⟨w.heap.size + 1, 3, none⟩ (.int .i64 p2)).setCell ⟨w.heap.size + 1, 4, none⟩ (.slice A6 D.length c6)).setCell ⟨w.heap.size + 1, 5, none⟩ (.int .i64 le)).setCell ⟨w.heap.size + 1, 6, none⟩ (.bool b)).heap[w.heap.size + 1]? = some (.cells #[.int .i64 cla, .int .i64 ins, .int .i64 p1, .int .i64 p2, .slice A6 D.length c6, .int .i64 le, .bool b] 30 (0, 0)) ∧ SL (((((((((w10.setCell ⟨w.heap.size, 4, none⟩ (.slice A6 D.length c6)).setCell ⟨w.heap.size, 6, none⟩ (.bool b)).setCell ⟨w.heap.size + 1, 0, none⟩ (.int .i64 cla)).setCell ⟨w.heap.size + 1, 1, none⟩ (.int .i64 ins)).setCell ⟨w.heap.size + 1, 2, none⟩ (.int .i64 p1)).setCell ⟨w.heap.size + 1, 3, none⟩ (.int .i64 p2)).setCell ⟨w.heap.size + 1, 4, none⟩ (.slice A6 D.length c6)).setCell ⟨w.heap.size + 1, 5, none⟩ (.int .i64 le)).setCell ⟨w.heap.size + 1, 6, none⟩ (.bool b)) (((((((((w10.setCell ⟨w.heap.size, 4, none⟩ (.slice A6 D.length c6)).setCell ⟨w.heap.size, 6, none⟩ (.bool b)).setCell ⟨w.heap.size + 1, 0, none⟩ (.int .i64 cla)).setCell ⟨w.heap.size + 1, 1, none⟩ (.int .i64 ins)).setCell ⟨w.heap.size + 1, 2, none⟩ (.int .i64 p1)).setCell ⟨w.heap.size + 1, 3, none⟩ (.int .i64 p2)).setCell ⟨w.heap.size + 1, 4, none⟩ (.slice A6 D.length c6)).setCell ⟨w.heap.size + 1, 5, none⟩ (.int .i64 le)).setCell ⟨w.heap.size + 1, 6, none⟩ (.bool b)).heap.size (.slice A6 D.length c6) D := by
  have hW1 : WW w (w10.setCell ⟨w.heap.size, 4, none⟩ (.slice A6 D.length c6)) K #[.int .i64 cla, .int .i64 ins, .int .i64 p1, .int .i64 p2, .slice A6 D.length c6, .int .i64 le, .bool long] ks := hW.setx 4 _
  have s1 := sl_set hW.r1 (cm_cells _ _ _ _ _ _ _ _ _) hv 4 (.slice A6 D.length c6)
  have hW2 : WW w ((w10.setCell ⟨w.heap.size, 4, none⟩ (.slice A6 D.length c6)).setCell ⟨w.heap.size, 6, none⟩ (.bool b)) K #[.int .i64 cla, .int .i64 ins, .int .i64 p1, .int .i64 p2, .slice A6 D.length c6, .int .i64 le, .bool b] ks := hW1.setx 6 _
  have s2 := sl_set hW1.r1 (cm_cells _ _ _ _ _ _ _ _ _) s1 6 (.bool b)
  generalize ((w10.setCell ⟨w.heap.size, 4, none⟩ (.slice A6 D.length c6)).setCell ⟨w.heap.size, 6, none⟩ (.bool b)) = W at *
  exact ⟨hW2.bp.st7 (Nat.le_succ _) .., row7st hW2.r2 .., ((offC hW2.r2 (cm_cells _ _ _ _ _ _ _ _ _) s2 (Nat.le_refl _)).kb (kb7 ..)).sl⟩
/-- The body of a protected command, its head, and the whole. -/
def wrB (s : Ch) (x : Cm) (n : Nat) : List UInt8 := encF s 2 (ivF s.enc (n + 1) 0) x.data
def wrX (x : Cm) : Cm := ⟨bytN ⟨(clsK x.cla).ch, true, (clsK x.cla).chn, (clsK x.cla).prp⟩, x.ins, x.p1, x.p2, x.data, x.le, x.long⟩
def wrD (s : Ch) (x : Cm) (n : Nat) : List UInt8 := wrB s x n ++ cmF s (wrX x) (wrB s x n)
def wrY (s : Ch) (x : Cm) (n : Nat) : Cm := ⟨(wrX x).cla, x.ins, x.p1, x.p2, wrD s x n, x.le, x.long || decide ((255 : Int) < ((wrD s x n).length : Int))⟩
theorem encF_le (s : Ch) (bit : Int) (iv d : List UInt8) (hiv : iv.length = 8) : (encF s bit iv d).length ≤ d.length + 8 := by
  unfold encF
  split
  · rw [cbE_len _ _ _ (by rw [padL_len]; omega), padL_len]; omega
  · omega
set_option maxRecDepth 100000 in
set_option maxHeartbeats 3200000 in
theorem pwrap_mac (g : Nat) (s : Ch) (x : Cm) (A : Option Addr) (k n N : Nat) (w : World) (h : CH w g s) (hN : x.le = (N : Int)) (hN6 : N ≤ 65536) (hE : wrE s x = 0) (hL : hasB s.lvl 1 = true)
    (he16 : s.enc.length = 16) (hm16 : s.mac.length = 16) (hv8 : s.cv.length = 8) (hcn : s.cnt = (n : Int)) (hn : n ≤ 10000)
    (hd : SL w w.heap.size (.slice A x.data.length k) x.data) (hl : x.data.length ≤ 1990) :
    Calls Tryd.prog 26 #[.pointer (some ⟨g, 0, none⟩), x.val (.slice A x.data.length k)] w (WrP w (wrY s x n)) := by
  have hc := fun W (hW : Below w.heap.size w W) => pclass_any g s x A x.data.length k W (h.below hW) rfl (by omega)
  have hh := fun W (hW : Below w.heap.size w W) => phas_any g 1 s W (h.below hW)
  have hst := fun W (hW : Below w.heap.size w W) => pcst_any g s n W (h.below hW) he16 hcn hn
  have hen := fun W vi (hW : Below w.heap.size w W) (hi : SL W W.heap.size vi (ivF s.enc (n + 1) 0)) => pencr_any g s 2 _ _ vi _ W (h.below hW) he16 (ivF_len ..) hi (hd.on hW) (by omega)
  have hBl : (wrB s x n).length ≤ 1998 := by
    have := encF_le s 2 (ivF s.enc (n + 1) 0) x.data (ivF_len ..)
    unfold wrB; omega
  have hmc := fun W vb (hW : Below w.heap.size w W) (hb : SL W W.heap.size vb (wrB s x n)) => pcmac_any g s (wrX x) A x.data.length k _ vb N W (h.below hW) hm16 hv8 hN hN6 hb (by omega)
  have hMl : (cmF s (wrX x) (wrB s x n)).length ≤ 8 := by
    exact Nat.le_of_eq (macL_len _ _ _)
  rw [hL] at hh
  have h0 : clE s x = 0 := by
    by_cases q : clE s x = 0
    · exact q
    · rw [wrE_cl q] at hE; exact absurd hE q
  have hs : (clsK x.cla).sec = false := by
    cases q : (clsK x.cla).sec with
    | false => rfl
    | true => rw [wrE_sec h0 q] at hE; cases hE
  have hk : clK s x = clsK x.cla := by rw [clK, if_pos h0]
  have he : erV (clE s x) = .nilIface := by rw [h0]; rfl
  rw [hk, he] at hc
  have hy : wrY s x n = ⟨(wrX x).cla, x.ins, x.p1, x.p2, wrD s x n, x.le, x.long || decide ((255 : Int) < ((wrD s x n).length : Int))⟩ := rfl
  have hx : wrX x = ⟨bytN ⟨(clsK x.cla).ch, true, (clsK x.cla).chn, (clsK x.cla).prp⟩, x.ins, x.p1, x.p2, x.data, x.le, x.long⟩ := rfl
  have hdd : wrD s x n = wrB s x n ++ cmF s (wrX x) (wrB s x n) := rfl
  have hBd : wrB s x n = encF s 2 (ivF s.enc (n + 1) 0) x.data := rfl
  rw [← hBd] at hen
  rw [hy, hdd]
  generalize cmF s (wrX x) (wrB s x n) = M at *
  generalize wrB s x n = B at *
  generalize ivF s.enc (n + 1) 0 = I at *
  rw [hx] at hmc ⊢
  clear hx hdd hBd hy
  obtain ⟨cla, ins, p1, p2, data, le, long⟩ := x
  simp only [Cm.val] at *
  generalize clsK cla = K at *
  obtain ⟨kc, ks, kn, kp⟩ := K
  simp only at hs
  subst hs
  simp only [Kl.val] at hc
  simp only at hmc ⊢
  have hby := fun W => pbyt_any ⟨kc, true, kn, kp⟩ W
  simp only [Kl.val] at hby
  generalize bytN ⟨kc, true, kn, kp⟩ = cl2 at *
  generalize bytE ⟨kc, true, kn, kp⟩ = ce2 at *
  have hjn := fun (W : World) va vb h1 h2 W2 h3 h4 => join2 B M va vb W h1 h2 (by omega) (by omega) W2 h3 h4
  have HP : Hid (∀ e v w', e = .returned (.tuple #[.agg #[.int .i64 cl2, .int .i64 ins, .int .i64 p1, .int .i64 p2, v, .int .i64 le, .bool (long || decide ((255 : Int) < ((B ++ M).length : Int)))], .nilIface]) → SL w' w'.heap.size v (B ++ M) → Below w.heap.size w w' → WrP w ⟨cl2, ins, p1, p2, B ++ M, le, long || decide ((255 : Int) < ((B ++ M).length : Int))⟩ e w') := fun e v w' he h1 h2 => ⟨v, he, h1, h2⟩
  generalize WrP w ⟨cl2, ins, p1, p2, B ++ M, le, long || decide ((255 : Int) < ((B ++ M).length : Int))⟩ = Q at *
  have hb := alloc2_below w (Obj.cells #[.int .i64 cla, .int .i64 ins, .int .i64 p1, .int .i64 p2, .slice A data.length k, .int .i64 le, .bool long] 30) (Obj.cells #[.int .i64 0, .int .i64 0, .int .i64 0, .int .i64 0, .slice none 0 0, .int .i64 0, .bool false] 30)
  have HC := Lib.hid (hc _ hb)
  have HB := Lib.hid hb
  have HN1 := Lib.hid (heap_alloc2_old w (Obj.cells #[.int .i64 cla, .int .i64 ins, .int .i64 p1, .int .i64 p2, .slice A data.length k, .int .i64 le, .bool long] 30) (Obj.cells #[.int .i64 0, .int .i64 0, .int .i64 0, .int .i64 0, .slice none 0 0, .int .i64 0, .bool false] 30))
  have HN2 := Lib.hid (heap2_new w (Obj.cells #[.int .i64 cla, .int .i64 ins, .int .i64 p1, .int .i64 p2, .slice A data.length k, .int .i64 le, .bool long] 30) (Obj.cells #[.int .i64 0, .int .i64 0, .int .i64 0, .int .i64 0, .slice none 0 0, .int .i64 0, .bool false] 30))
  have HZ : Hid (((w.alloc (Obj.cells #[.int .i64 cla, .int .i64 ins, .int .i64 p1, .int .i64 p2, .slice A data.length k, .int .i64 le, .bool long] 30)).alloc (Obj.cells #[.int .i64 0, .int .i64 0, .int .i64 0, .int .i64 0, .slice none 0 0, .int .i64 0, .bool false] 30)).heap.size = w.heap.size + 2) := by show _ = _; rw [alloc_size, alloc_size]
  have HH := Lib.hid hh
  have HST := Lib.hid hst
  have HEN := Lib.hid hen
  have HMC := Lib.hid hmc
  have HBY := Lib.hid hby
  have HJN := Lib.hid hjn
  have HBL := Lib.hid hBl
  clear h hc hb hE h0 hk he hh hst hen hmc hby hjn hd hl hL hN hN6 he16 hm16 hv8 hcn hn hBl hMl
  go_enter Tryd.func26, Tryd.ntmps26
  go_wp2_with fail
  refine HC.out.mono ?_
  rintro e w3 ⟨rfl, hb3⟩
  have hz3 := hb3.size
  rw [HZ.out] at hz3
  have m1 := ((alloc_below w3 (Obj.cells #[.int .i64 kc, .bool false, .bool kn, .bool kp] 77)).block _ (Nat.lt_of_lt_of_le (blk_lt HN1.out) hb3.size)).trans ((hb3.block _ (blk_lt HN1.out)).trans HN1.out)
  have m2 := ((alloc_below w3 (Obj.cells #[.int .i64 kc, .bool false, .bool kn, .bool kp] 77)).block _ (Nat.lt_of_lt_of_le (blk_lt HN2.out) hb3.size)).trans ((hb3.block _ (blk_lt HN2.out)).trans HN2.out)
  have HW5 : Hid (WW w (w3.alloc (Obj.cells #[.int .i64 kc, .bool false, .bool kn, .bool kp] 77)) w3.heap.size #[.int .i64 cla, .int .i64 ins, .int .i64 p1, .int .i64 p2, .slice A data.length k, .int .i64 le, .bool long] #[.int .i64 kc, .bool false, .bool kn, .bool kp]) :=
    ⟨(BP.mk (HB.out.trans (hb3.mono HB.out.size)) (by omega)).al _, m1, m2, heap_alloc_new _ _, by omega⟩
  have hx1 : w.heap.size + 1 ≠ w3.heap.size := by omega
  have hx2 : w3.heap.size ≠ w.heap.size + 1 := by omega
  have hx3 : w.heap.size ≠ w3.heap.size := by omega
  have hx4 : w3.heap.size ≠ w.heap.size := by omega
  have hy1 : w.heap.size + 1 ≠ w.heap.size := by omega
  have hy2 : w.heap.size ≠ w.heap.size + 1 := by omega
  clear m1 m2 hz3 hb3
  obtain ⟨⟨q0, q1, q2, q3, q4, q5, q6⟩, ⟨g0, g1, g2, g3, g4, g5, g6⟩⟩ := cells7 HW5.out.r1
  obtain ⟨⟨r0, r1, r2, r3, r4, r5, r6⟩, ⟨f0, f1, f2, f3, f4, f5, f6⟩⟩ := cells7 HW5.out.r2
  obtain ⟨⟨t0, t1, t2, t3⟩, ⟨l0, l1, l2, l3⟩⟩ := cells4 HW5.out.r3
  go_wp2_with fail
  refine (HH.out _ HW5.out.bp.b).mono ?_
  rintro e w5 ⟨rfl, rfl⟩
  go_wp2_with fail
  have hS6 : True := trivial
  go_region_held3 (fun W => W.cell? ⟨w.heap.size, 4, none⟩ = some (.slice A data.length k))
    (first | (with_reducible exact hS6) | (with_reducible exact HW5.out.dr.c4) | (with_reducible exact HW7.out.c4) | (go_keep; done))
    (first
      | (go_at_call 40; (with_reducible refine (HST.out _ HW5.out.dr.bp.b).mono ?_); rintro e w6 ⟨v6, rfl, hv6, hb6⟩; have HW6 := Lib.hid (HW5.out.dr.on hb6); have HV6 := Lib.hid hv6; have hS6 := HW6.out.c4)
      | (go_at_call 40; (with_reducible refine (HST.out _ HW5.out.bp.b).mono ?_); rintro e w6 ⟨v6, rfl, hv6, hb6⟩; have HW6 := Lib.hid (HW5.out.on hb6); have HV6 := Lib.hid hv6; have hS6 := HW6.out.c4)
      | (go_at_call 39; (with_reducible refine (HEN.out _ _ HW6.out.bp.b HV6.out).mono ?_); rintro e w7 ⟨v7, rfl, hv7, hb7⟩; have HW7 := Lib.hid (HW6.out.on hb7); have HV7 := Lib.hid hv7; obtain ⟨A7, c7, rfl, _, _, _⟩ := id hv7)
      | fail "none")
  have hi2 : ¬ (65535 < (B.length : Int) + 8) := by have := HBL.out; omega
  have hi3 : IntKind.wrap .i64 ((B.length : Int) + 8) = (B.length : Int) + 8 := by have := HBL.out; rw [IntWalk.i64_in _ (by omega)]
  clear hv6 hb6 hv7 hb7 hS6
  clear q0 q1 q2 q3 q4 q5 q6 g0 g1 g2 g3 g4 g5 g6 r0 r1 r2 r3 r4 r5 r6 f0 f1 f2 f3 f4 f5 f6 t0 t1 t2 t3 l0 l1 l2 l3
  obtain ⟨⟨q0, q1, q2, q3, q4, q5, q6⟩, ⟨g0, g1, g2, g3, g4, g5, g6⟩⟩ := cells7 HW7.out.r1
  obtain ⟨⟨r0, r1, r2, r3, r4, r5, r6⟩, ⟨f0, f1, f2, f3, f4, f5, f6⟩⟩ := cells7 HW7.out.r2
  obtain ⟨⟨t0, t1, t2, t3⟩, ⟨l0, l1, l2, l3⟩⟩ := cells4 HW7.out.r3
  go_wp2_with fail
  refine (HBY.out _).mono ?_
  rintro e w8 ⟨rfl, hb8⟩
  have HV8 := Lib.hid ((sl_set HW7.out.r3 (kl_cells _ _ _ _) HV7.out 1 (.bool true)).on hb8)
  have HW8 : Hid (WW w w8 w3.heap.size #[.int .i64 cla, .int .i64 ins, .int .i64 p1, .int .i64 p2, .slice A data.length k, .int .i64 le, .bool long] #[.int .i64 kc, .bool true, .bool kn, .bool kp]) := (HW7.out.setk 1 (.bool true)).on hb8
  clear hb8
  clear q0 q1 q2 q3 q4 q5 q6 g0 g1 g2 g3 g4 g5 g6 r0 r1 r2 r3 r4 r5 r6 f0 f1 f2 f3 f4 f5 f6 t0 t1 t2 t3 l0 l1 l2 l3
  obtain ⟨⟨q0, q1, q2, q3, q4, q5, q6⟩, ⟨g0, g1, g2, g3, g4, g5, g6⟩⟩ := cells7 HW8.out.r1
  obtain ⟨⟨r0, r1, r2, r3, r4, r5, r6⟩, ⟨f0, f1, f2, f3, f4, f5, f6⟩⟩ := cells7 HW8.out.r2
  obtain ⟨⟨t0, t1, t2, t3⟩, ⟨l0, l1, l2, l3⟩⟩ := cells4 HW8.out.r3
  go_wp2_with fail
  have HW8b : Hid (WW w (w8.setCell ⟨w.heap.size, 0, none⟩ (.int .i64 cl2)) w3.heap.size #[.int .i64 cl2, .int .i64 ins, .int .i64 p1, .int .i64 p2, .slice A data.length k, .int .i64 le, .bool long] #[.int .i64 kc, .bool true, .bool kn, .bool kp]) := HW8.out.setx 0 (.int .i64 cl2)
  have HV8b := Lib.hid (sl_set HW8.out.r1 (cm_cells _ _ _ _ _ _ _ _ _) HV8.out 0 (.int .i64 cl2))
  refine (HMC.out _ _ HW8b.out.bp.b HV8b.out).mono ?_
  rintro e w9 ⟨v9, rfl, hv9, hb9⟩
  have HW9 := Lib.hid (HW8b.out.on hb9)
  have HV9 := Lib.hid (HV8b.out.on hb9)
  have HM9 := Lib.hid hv9
  obtain ⟨A9, c9, rfl, _, _, _⟩ := id hv9
  clear hv9 hb9
  clear q0 q1 q2 q3 q4 q5 q6 g0 g1 g2 g3 g4 g5 g6 r0 r1 r2 r3 r4 r5 r6 f0 f1 f2 f3 f4 f5 f6 t0 t1 t2 t3 l0 l1 l2 l3
  obtain ⟨⟨q0, q1, q2, q3, q4, q5, q6⟩, ⟨g0, g1, g2, g3, g4, g5, g6⟩⟩ := cells7 HW9.out.r1
  obtain ⟨⟨r0, r1, r2, r3, r4, r5, r6⟩, ⟨f0, f1, f2, f3, f4, f5, f6⟩⟩ := cells7 HW9.out.r2
  obtain ⟨⟨t0, t1, t2, t3⟩, ⟨l0, l1, l2, l3⟩⟩ := cells4 HW9.out.r3
  go_wp2_with fail
  refine (HJN.out w9 _ _ HV9.out HM9.out _ (alloc_below _ _) (heap_alloc_new _ _)).mono ?_
  rintro e w10 ⟨v10, rfl, hv10, hb10⟩
  have HW10 := Lib.hid (HW9.out.on hb10)
  have HV10 := Lib.hid hv10
  obtain ⟨A10, c10, rfl, _, _, _⟩ := id hv10
  have HF := Lib.hid fun b => mac_fin b HW10.out HV10.out
  clear hv10 hb10
  clear q0 q1 q2 q3 q4 q5 q6 g0 g1 g2 g3 g4 g5 g6 r0 r1 r2 r3 r4 r5 r6 f0 f1 f2 f3 f4 f5 f6 t0 t1 t2 t3 l0 l1 l2 l3
  obtain ⟨⟨q0, q1, q2, q3, q4, q5, q6⟩, ⟨g0, g1, g2, g3, g4, g5, g6⟩⟩ := cells7 HW10.out.r1
  obtain ⟨⟨r0, r1, r2, r3, r4, r5, r6⟩, ⟨f0, f1, f2, f3, f4, f5, f6⟩⟩ := cells7 HW10.out.r2
  obtain ⟨⟨t0, t1, t2, t3⟩, ⟨l0, l1, l2, l3⟩⟩ := cells4 HW10.out.r3
  generalize B ++ M = D at *
  cases long with
  | true =>
    go_wp2_with fail
    exact bodyPost_ret (results_cell2 rfl _ _ (w.heap.size + 1) 30 _ (0, 0) _ rfl (HF.out _).2.1 Tryd.underlying30 rfl (by kernel_rfl)) rfl (HP.out _ _ _ rfl (HF.out _).2.2 (HF.out _).1.b)
  | false =>
    go_wp2_with fail
    exact bodyPost_ret (results_cell2 rfl _ _ (w.heap.size + 1) 30 _ (0, 0) _ rfl (HF.out _).2.1 Tryd.underlying30 rfl (by kernel_rfl)) rfl (HP.out _ _ _ rfl (HF.out _).2.2 (HF.out _).1.b)
end Go.Proofs.YtdalcldilmmgmaaDoor
