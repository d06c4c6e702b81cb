/-
  Wrap and Unwrap of a protected command, in one contract each; the session of the example.
-/
import Derived.Test.YtdalcldilmmgmaaDoorCmr
import Derived.Test.YtdalcldilmmgmaaDoorMgd
import Derived.Test.YtdalcldilmmgmaaDoorChu
namespace Go.Proofs.YtdalcldilmmgmaaDoor
set_option linter.unusedVariables false
set_option linter.unusedSimpArgs false
open Go.RowKit

/-- A side that is open, with its keys, and that has counted n commands. -/
structure Okc (s : Ch) (n : Nat) : Prop where
  enc : s.enc.length = 16
  mac : s.mac.length = 16
  rmac : s.rmac.length = 16
  dat : s.dat.length = 16
  cv : s.cv.length = 8
  cnt : s.cnt = (n : Int)
  cls : s.cls = false
theorem Okc.next {s : Ch} {n : Nat} (h : Okc s n) (d : List UInt8) (h8 : hasB s.lvl 1 = true → 8 ≤ d.length) : Okc (s.next d) (n + 1) := by
  refine ⟨h.enc, h.mac, h.rmac, h.dat, ?_, ?_, h.cls⟩
  · show (if hasB s.lvl 1 = true then d.drop (d.length - 8) else s.cv).length = 8
    split
    · rename_i q; rw [List.length_drop]; have := h8 q; omega
    · exact h.cv
  · show s.cnt + 1 = ((n + 1 : Nat) : Int)
    rw [h.cnt]; omega
theorem pWrap_mac (g : Nat) (s : Ch) (x : Cm) (A : Option Addr) (k n : Nat) (w : World) (h : CH w g s) (o : Okc s n) (hn : n ≤ 1000) (hL : hasB s.lvl 1 = true) (hE : wrE s x = 0) (hd : SL w w.heap.size (.slice A x.data.length k) x.data) (hl : x.data.length ≤ 1984) :
    Calls Tryd.prog 10 #[.pointer (some ⟨g, 0, none⟩), x.val (.slice A x.data.length k)] w (WRP g s (wrY s x n) w) := by
  obtain ⟨N, hN, hN6⟩ := le_nat (wrE_zero hE).1
  have hle : (wrY s x n).data.length ≤ x.data.length + 16 := wrD_le s x n
  have h8 : (wrY s x n).data.length = (wrB s x n).length + 8 := wrD_len s x n
  exact pWrap_ok g s x (wrY s x n) A x.data.length k w h o.cv ⟨by rw [o.cnt]; omega, by rw [o.cnt]; omega⟩
    (fun W hW => pwrap_mac g s x A k n N W (h.below hW) hN hN6 hE hL o.enc o.mac o.cv o.cnt (by omega) (hd.on hW) (by omega)) (by omega) (fun _ => by omega)
theorem pUnwrap_mac (g : Nat) (s : Ch) (x y : Cm) (A : Option Addr) (k n : Nat) (w : World) (h : CH w g s) (o : Okc s n) (hn : n ≤ 1000) (hL : hasB s.lvl 1 = true) (r : RT s s x y n) (hd : SL w w.heap.size (.slice A y.data.length k) y.data) (hl : y.data.length ≤ 2000) :
    Calls Tryd.prog 11 #[.pointer (some ⟨g, 0, none⟩), y.val (.slice A y.data.length k)] w (UWP g s y (unY y x.data) w) := by
  obtain ⟨N, hN, hN6⟩ := le_nat r.cl
  exact pUnwrap_ok g s y (unY y x.data) A k w h o.cv ⟨by rw [o.cnt]; omega, by rw [o.cnt]; omega⟩
    (fun W hW => punwrap_ok g s y A k n W (h.below hW) N hN hN6 o.mac o.cv o.enc o.cnt (by omega) r.cl hL r.sec r.l8 r.mac x.data r.dec (hd.on hW) hl) hd hl (fun _ => r.l8)
/-- A command whose MAC is wrong: the side is closed. -/
theorem pUnwrap_wrong (g : Nat) (s : Ch) (y : Cm) (A : Option Addr) (k n : Nat) (w : World) (h : CH w g s) (ht : ET w) (o : Okc s n) (hL : hasB s.lvl 1 = true) (hc : clE s y = 0) (hS : (clsK y.cla).sec = true) (h8 : 8 ≤ y.data.length)
    (hM : y.data.drop (y.data.length - 8) ≠ cmF s y (y.data.take (y.data.length - 8))) (hd : SL w w.heap.size (.slice A y.data.length k) y.data) (hl : y.data.length ≤ 2000) :
    Calls Tryd.prog 11 #[.pointer (some ⟨g, 0, none⟩), y.val (.slice A y.data.length k)] w fun e w' => e = .returned (.tuple #[Cm.zero.val (.slice none 0 0), .int .i64 17]) ∧ CH w' g s.shut ∧ Kb g w w' := by
  obtain ⟨N, hN, hN6⟩ := le_nat hc
  exact pUnwrap_bad g s y 17 A y.data.length k w h o.cv ht (by decide)
    (fun W hW => (punwrap_wrong g s y A k W (h.below hW) N hN hN6 o.mac o.cv hc hL hS h8 hM (hd.on hW) hl))

/-! ### The example -/
def keyA (b : UInt8) : List UInt8 := List.replicate 16 b
theorem keyA_len (b : UInt8) : (keyA b).length = 16 := by simp [keyA]
theorem sl_key {W : World} {b : UInt8} {v : Value} (h : SL W W.heap.size v (keyA b)) : ∃ A c, v = .slice A 16 c ∧ SL W W.heap.size (.slice A 16 c) (keyA b) := by
  obtain ⟨A, c, rfl, _⟩ := id h
  rw [keyA_len] at h
  exact ⟨A, c, by rw [keyA_len], h⟩
def ssA : Ss := ⟨keyA 1, keyA 2, keyA 3, keyA 4, 1⟩
def z8A : List UInt8 := List.replicate 8 0
def chA : Ch := Ch.new ssA z8A
theorem okA : (ssA.ok && decide (z8A.length = 8)) = true := by decide
/-- New of the example's session. -/
theorem new_ex (W W2 : World) (A1 A2 A3 A4 : Option Addr) (c1 c2 c3 c4 : Nat) (vm : Value) (hb : Below W.heap.size W W2) (h1 : SL W W.heap.size (.slice A1 16 c1) (keyA 1)) (h2 : SL W W.heap.size (.slice A2 16 c2) (keyA 2)) (h3 : SL W W.heap.size (.slice A3 16 c3) (keyA 3)) (h4 : SL W W.heap.size (.slice A4 16 c4) (keyA 4)) (hm : SL W2 W2.heap.size vm z8A) :
    Calls Tryd.prog 8 #[.agg #[.slice A1 16 c1, .slice A2 16 c2, .slice A3 16 c3, .slice A4 16 c4, .int .i64 1], vm] W2 fun e w' => ∃ g, W.heap.size ≤ g ∧ e = .returned (.pointer (some ⟨g, 0, none⟩)) ∧ CH w' g chA ∧ Below W.heap.size W w' := by
  refine (pnew_any ssA z8A (.slice A1 16 c1) (.slice A2 16 c2) (.slice A3 16 c3) (.slice A4 16 c4) vm W2 (h1.on hb) (h2.on hb) (h3.on hb) (h4.on hb) hm).mono ?_
  rintro e w' ⟨hb2, h | ⟨_, g, hg, he, hc⟩⟩
  · rw [okA] at h; cases h.1
  · exact ⟨g, Nat.le_trans hb.size hg, he, hc, hb.trans (hb2.mono hb.size)⟩
theorem okcA : Okc chA 0 := ⟨by decide, by decide, by decide, by decide, by decide, rfl, rfl⟩
theorem lvlA : hasB chA.lvl 1 = true := by decide
def xA : Cm := ⟨0, 176, 0, 0, [], 4, false⟩
theorem wrEA : wrE chA xA = 0 := by decide
def DA : List UInt8 := wrD chA xA 0
theorem DA_len : DA.length = 8 := by
  rw [DA, wrD_len]
  have : wrB chA xA 0 = [] := by unfold wrB encF; rw [if_neg (by simp [xA])]; rfl
  rw [this]; rfl
theorem rtA : RT chA chA xA (wrY chA xA 0) 0 := rt_any chA chA xA 0 okcA.enc rfl wrEA (by decide)
theorem wrYA : wrY chA xA 0 = ⟨4, 176, 0, 0, DA, 4, false⟩ := by
  have h1 : (wrY chA xA 0).cla = 4 := rtA.cla
  have h2 : wrY chA xA 0 = ⟨(wrY chA xA 0).cla, 176, 0, 0, DA, 4, false || decide ((255 : Int) < (DA.length : Int))⟩ := rfl
  rw [h2, h1, DA_len]
  rfl
theorem wrap_ex (g : Nat) (W : World) (h : CH W g chA) : Calls Tryd.prog 10 #[.pointer (some ⟨g, 0, none⟩), .agg #[.int .i64 0, .int .i64 176, .int .i64 0, .int .i64 0, .slice none 0 0, .int .i64 4, .bool false]] W fun e w' =>
    ∃ A c, e = .returned (.tuple #[.agg #[.int .i64 4, .int .i64 176, .int .i64 0, .int .i64 0, .slice A 8 c, .int .i64 4, .bool false], .int .i64 0]) ∧ SL w' w'.heap.size (.slice A 8 c) DA ∧ Kb g W w' := by
  have := pWrap_mac g chA xA none 0 0 W h okcA (by decide) lvlA wrEA (FL.nil g W).sl (by decide)
  refine this.mono ?_
  rw [wrYA]
  rintro e w' ⟨v, he, hv, hc, hk⟩
  obtain ⟨A, c, rfl, _⟩ := id hv
  simp only [DA_len] at hv he
  exact ⟨A, c, he, hv, hk⟩
theorem unwrap_ex (g : Nat) (W : World) (A : Option Addr) (c : Nat) (h : CH W g chA) (hd : SL W W.heap.size (.slice A 8 c) DA) : Calls Tryd.prog 11 #[.pointer (some ⟨g, 0, none⟩), .agg #[.int .i64 4, .int .i64 176, .int .i64 0, .int .i64 0, .slice A 8 c, .int .i64 4, .bool false]] W fun e w' =>
    ∃ A2 c2, e = .returned (.tuple #[.agg #[.int .i64 0, .int .i64 176, .int .i64 0, .int .i64 0, .slice A2 0 c2, .int .i64 4, .bool false], .int .i64 0]) ∧ CH w' g (chA.next DA) ∧ Kb g W w' := by
  have hr := rtA
  have hu : unY (wrY chA xA 0) xA.data = ⟨0, 176, 0, 0, [], 4, false⟩ := by rw [hr.un, wrYA]; rfl
  rw [wrYA] at hr hu
  have hd2 : SL W W.heap.size (.slice A DA.length c) DA := by rw [DA_len]; exact hd
  have := pUnwrap_mac g chA xA ⟨4, 176, 0, 0, DA, 4, false⟩ A c 0 W h okcA (by decide) lvlA hr hd2 (by show DA.length ≤ 2000; rw [DA_len]; decide)
  rw [hu] at this
  simp only [DA_len, Cm.val] at this
  refine this.mono ?_
  rintro e w' ⟨v, he, hv, hc, hk⟩
  obtain ⟨A2, c2, rfl, _⟩ := id hv
  exact ⟨A2, c2, he, hc, hk⟩
end Go.Proofs.YtdalcldilmmgmaaDoor
