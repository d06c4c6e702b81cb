
/-
  Words for the byte slices of the octets walks: a slice value that reads as a list of bytes, one that the call itself owns, and how both are kept.
-/
import Derived.WalkKit
import Derived.Below
import Derived.Deep.Draws
import Derived.Deep.AppendLies
namespace Go.Proofs.YtdalcldilmmgmaaDoor
set_option linter.unusedVariables false
set_option linter.unusedSimpArgs false
open Go.RowKit

/-- A byte as a value. -/
def bv (x : UInt8) : Value := .int .u8 (x.toNat : Int)

/-- Where there is a byte, the address A leads to the bytes l, below block B. -/
def Rd (w : World) (B : Nat) (A : Option Addr) (l : List UInt8) : Prop :=
  0 < l.length → ∃ b o, A = some ⟨b, o, none⟩ ∧ b < B ∧ ∀ k, k < l.length → w.cell? ⟨b, o + k, none⟩ = some (.int .u8 ((l.getD k 0).toNat : Int))

/-- The value v is a slice that reads in w as the bytes l; what it reads lies below block B. -/
def SL (w : World) (B : Nat) (v : Value) (l : List UInt8) : Prop :=
  ∃ (A : Option Addr) (c : Nat), v = .slice A l.length c ∧ l.length ≤ c ∧ c ≤ maxLen ∧ Rd w B A l

/-- The value v is a slice of the bytes l that the call itself has made, in blocks from base on. -/
def OB (w : World) (base : Nat) (v : Value) (l : List UInt8) : Prop := w.ownsRow base 5 1 v l.length (l.map bv)

theorem addr_add (b o k : Nat) : (⟨b, o, none⟩ : Addr).add k = ⟨b, o + k, none⟩ := by unfold Addr.add; split <;> simp_all
theorem map_bv_get (l : List UInt8) (k : Nat) (h : k < l.length) : (l.map bv)[k]? = some (.int .u8 ((l.getD k 0).toNat : Int)) := by
  simp [List.getElem?_map, List.getElem?_eq_getElem h, List.getD, bv]
theorem map_bv_one (l : List UInt8) : ∀ u ∈ l.map bv, u.oneCell' = true := by
  intro u hu; obtain ⟨x, _, rfl⟩ := List.mem_map.1 hu; rfl

section
variable {w w' : World} {B B' base : Nat} {v : Value} {l : List UInt8}

theorem SL.keep (h : SL w B v l) (hk : ∀ p : Addr, p.block < B → w'.cell? p = w.cell? p) : SL w' B v l := by
  obtain ⟨A, c, hv, h1, h2, h3⟩ := h
  refine ⟨A, c, hv, h1, h2, fun hp => ?_⟩
  obtain ⟨b, o, hA, hb, hc⟩ := h3 hp
  exact ⟨b, o, hA, hb, fun k hk' => (hk ⟨b, o + k, none⟩ hb).trans (hc k hk')⟩

theorem SL.more (h : SL w B v l) (hB : B ≤ B') : SL w B' v l := by
  obtain ⟨A, c, hv, h1, h2, h3⟩ := h
  refine ⟨A, c, hv, h1, h2, fun hp => ?_⟩
  obtain ⟨b, o, hA, hb, hc⟩ := h3 hp
  exact ⟨b, o, hA, by omega, hc⟩

theorem SL.below (h : SL w B v l) (hb : Below B w w') : SL w' B v l := h.keep fun _ hp => hb.cell hp
/-- What lay below the heap's size lies there still behind a call that wrote nothing that was there. -/
theorem SL.on (h : SL w w.heap.size v l) (hb : Below w.heap.size w w') : SL w' w'.heap.size v l := (h.below hb).more hb.size

theorem SL.nil (w : World) (B c : Nat) (A : Option Addr) (hc : c ≤ maxLen) : SL w B (.slice A 0 c) [] := ⟨A, c, rfl, Nat.zero_le _, hc, fun h => absurd h (by simp)⟩

theorem OB.nil (w : World) (base : Nat) : OB w base (.slice none 0 0) [] := World.ownsRow_nil ..

theorem OB.sl (h : OB w base v l) : SL w w.heap.size v l := by
  rcases h.2 with ⟨rfl, h0⟩ | ⟨g, cap, cur, rfl, hb, hg, hn, hm, hs, ht⟩
  · have : l = [] := List.eq_nil_of_length_eq_zero h0
    subst this
    exact SL.nil _ _ _ _ (Nat.zero_le _)
  · refine ⟨some ⟨g, 0, none⟩, cap, rfl, hn, hm, fun _ => ⟨g, 0, rfl, ?_, fun k hk => ?_⟩⟩
    · rcases Nat.lt_or_ge g w.heap.size with hlt | hge
      · exact hlt
      · rw [Array.getElem?_eq_none hge] at hg; cases hg
    · have := World.ownsRow.cellAt (w := w) (base := base) (e := 5) (size := 1) (g := g) (n := l.length) (cap := cap) (xs := l.map bv) h (0 + k) (by omega)
      rw [this, Nat.zero_add, map_bv_get l k hk]

/-- An append to what the call owns leaves what lies below the call's own blocks. -/
theorem OB.far {W w1 : World} {p : Addr} (h : OB w base v l) (hg : W.grownBy w1 v.ownBlock) (hp : p.block < base) (hW : base ≤ W.heap.size) : w1.cell? p = W.cell? p :=
  hg.cell_far _ (by omega) (fun e => by have := (h.lt _ e.symm).1; omega)
theorem OB.below_block (h : OB w base v l) : ∀ k, v.ownBlock = some k → base ≤ k := fun k hk => (h.lt k hk).1

end

theorem far_set (w : World) {p q : Addr} (u : Value) (h : q.block ≠ p.block) : (w.setCell p u).cell? q = w.cell? q :=
  World.cell?_setCell_other w p q u (fun e => by subst e; exact h rfl)
theorem below_drewN {B : Nat} {a w : World} (h : Below B a w) (n : Nat) : Below B a (w.drewN n) := ⟨h.os, h.tape, h.output, h.size, h.block⟩
theorem drewN_below (B : Nat) (w : World) (n : Nat) : Below B w (w.drewN n) := below_drewN (Below.refl B w) n

end Go.Proofs.YtdalcldilmmgmaaDoor
