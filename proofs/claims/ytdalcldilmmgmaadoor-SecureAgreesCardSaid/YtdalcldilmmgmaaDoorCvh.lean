/-
  Wrap in one contract, whether it gives a command or an error; two sides, boxes and data that calls on sides keep.
-/
import Derived.Test.YtdalcldilmmgmaaDoorCvg
import Derived.Test.YtdalcldilmmgmaaDoorLsz
namespace Go.Proofs.YtdalcldilmmgmaaDoor
set_option linter.unusedVariables false
set_option linter.unusedSimpArgs false
open Go.RowKit

/-- What Wrap gives, what it leaves, and how many it has counted then. -/
def wgY (s : Ch) (x : Cm) (n : Nat) : Cm := if wrE s x = 0 then wrY s x n else Cm.zero
def wgS (s : Ch) (x : Cm) (n : Nat) : Ch := if wrE s x = 0 then s.next (wrY s x n).data else s
def wgN (s : Ch) (x : Cm) (n : Nat) : Nat := if wrE s x = 0 then n + 1 else n
theorem wgS_ok {s : Ch} {n : Nat} (o : Okc s n) (x : Cm) : Okc (wgS s x n) (wgN s x n) := by
  unfold wgS wgN
  by_cases h : wrE s x = 0
  · rw [if_pos h, if_pos h]
    exact o.next _ (fun _ => by have : (wrY s x n).data.length = (wrB s x n).length + 8 := wrD_len s x n; omega)
  · rw [if_neg h, if_neg h]
    exact o
theorem wgS_lvl (s : Ch) (x : Cm) (n : Nat) : (wgS s x n).lvl = s.lvl := by
  unfold wgS
  split <;> rfl
theorem pWrap_gen (g : Nat) (s : Ch) (x : Cm) (A : Option Addr) (k n : Nat) (w : World) (h : CH w g s) (ht : ET w) (o : Okc s n) (hn : n ≤ 1000) (hL : hasB s.lvl 1 = true) (hle : -9223372036854775808 ≤ x.le ∧ x.le ≤ 9223372036854775807) (hd : SL w w.heap.size (.slice A x.data.length k) x.data) (hl : x.data.length ≤ 1984) :
    Calls Tryd.prog 10 #[.pointer (some ⟨g, 0, none⟩), x.val (.slice A x.data.length k)] w fun e w' => ∃ v, e = .returned (.tuple #[(wgY s x n).val v, .int .i64 (wrE s x)]) ∧ SL w' w'.heap.size v (wgY s x n).data ∧ CH w' g (wgS s x n) ∧ Kb g w w' := by
  unfold wgY wgS
  by_cases hE : wrE s x = 0
  · rw [if_pos hE, if_pos hE, hE]
    exact pWrap_mac g s x A k n w h o hn hL hE hd hl
  · rw [if_neg hE, if_neg hE]
    refine (pWrap_no g s x A k n w h ht o hle hE).mono ?_
    rintro e w' ⟨he, hb⟩
    exact ⟨_, he, (FL.nil g w').sl, h.below hb, Kb.of_below hb⟩

/-- A box, two commands' boxes with their data, and a side. -/
structure OnS (w W : World) (bx bY g2 : Nat) (SO XO YO : Obj) (vx vy : Value) (dx dy : List UInt8) (s2 : Ch) : Prop where
  b : Below w.heap.size w W
  rs : W.heap[w.heap.size]? = some SO
  rx : W.heap[bx]? = some XO
  ry : W.heap[bY]? = some YO
  sx : SL W W.heap.size vx dx
  sy : SL W W.heap.size vy dy
  c : CH W g2 s2
section
variable {w W W2 : World} {bx bY g2 g3 : Nat} {SO XO YO : Obj} {vx vy : Value} {dx dy : List UInt8} {s2 s3 s4 : Ch}
theorem OnS.on (h : OnS w W bx bY g2 SO XO YO vx vy dx dy s2) (hb : Below W.heap.size W W2) : OnS w W2 bx bY g2 SO XO YO vx vy dx dy s2 :=
  ⟨h.b.trans (hb.mono h.b.size), (hb.block _ (blk_lt h.rs)).trans h.rs, (hb.block _ (blk_lt h.rx)).trans h.rx, (hb.block _ (blk_lt h.ry)).trans h.ry, h.sx.on hb, h.sy.on hb, h.c.below hb⟩
theorem OnS.al (h : OnS w W bx bY g2 SO XO YO vx vy dx dy s2) (o : Obj) : OnS w (W.alloc o) bx bY g2 SO XO YO vx vy dx dy s2 := h.on (alloc_below W o)
theorem OnS.drn (h : OnS w W bx bY g2 SO XO YO vx vy dx dy s2) (n : Nat) : OnS w (W.drewN n) bx bY g2 SO XO YO vx vy dx dy s2 := h.on (below_drewN (Below.refl _ _) n)
/-- A call on another side. -/
theorem OnS.kb (h : OnS w W bx bY g2 SO XO YO vx vy dx dy s2) (hc : CH W g3 s3) (hk : Kb g3 W W2) (h0 : w.heap.size < g3) (h1 : bx ≠ g3) (h2 : bY ≠ g3) (h3 : g3 ≠ g2) : OnS w W2 bx bY g2 SO XO YO vx vy dx dy s2 :=
  ⟨h.b.trans (hk.below (by omega) h.b.size), (hk.block _ (blk_lt h.rs) (by omega)).trans h.rs, (hk.block _ (blk_lt h.rx) h1).trans h.rx, (hk.block _ (blk_lt h.ry) h2).trans h.ry,
   ((hc.off h.sx (Nat.le_refl _)).kb hk).sl, ((hc.off h.sy (Nat.le_refl _)).kb hk).sl, hc.other h.c h3 hk⟩
/-- A call on the side itself. -/
theorem OnS.own (h : OnS w W bx bY g2 SO XO YO vx vy dx dy s2) (hk : Kb g2 W W2) (hc : CH W2 g2 s4) (h0 : w.heap.size < g2) (h1 : bx ≠ g2) (h2 : bY ≠ g2) : OnS w W2 bx bY g2 SO XO YO vx vy dx dy s4 :=
  ⟨h.b.trans (hk.below (by omega) h.b.size), (hk.block _ (blk_lt h.rs) (by omega)).trans h.rs, (hk.block _ (blk_lt h.rx) h1).trans h.rx, (hk.block _ (blk_lt h.ry) h2).trans h.ry,
   ((h.c.off h.sx (Nat.le_refl _)).kb hk).sl, ((h.c.off h.sy (Nat.le_refl _)).kb hk).sl, hc⟩
end
end Go.Proofs.YtdalcldilmmgmaaDoor
