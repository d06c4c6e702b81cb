/-
  An answer to reset as data, and how it lies in memory.
-/
import Derived.Test.YtnbggokmiokhlaaDoorOwn
namespace Go.Proofs.YtnbggokmiokhlaaDoor
set_option linter.unusedVariables false
set_option linter.unusedSimpArgs false
open Go.RowKit

/-- An interface byte. -/
structure Ib where
  g : Int
  k : Int
  v : Int
  p : Int
  deriving DecidableEq
def Ib.val (x : Ib) : Value := .agg #[.int .i64 x.g, .int .i64 x.k, .int .i64 x.v, .int .i64 x.p]
def Ib.zero : Ib := ⟨0, 0, 0, 0⟩
/-- An answer to reset. -/
structure At where
  inv : Bool
  ibs : List Ib
  prs : List Int
  his : List UInt8

def RdN (w : World) (B : Nat) (A : Option Addr) (l : List Int) : Prop :=
  0 < l.length → ∃ b o, A = some ⟨b, o, none⟩ ∧ b < B ∧ ∀ k, k < l.length → w.cell? ⟨b, o + k, none⟩ = some (.int .i64 (l.getD k 0))
/-- The value v is a slice of numbers that reads in w as l. -/
def NL (w : World) (B : Nat) (v : Value) (l : List Int) : Prop :=
  ∃ (A : Option Addr) (c : Nat), v = .slice A l.length c ∧ l.length ≤ c ∧ c ≤ maxLen ∧ RdN w B A l
def IAt (w : World) (b o : Nat) (x : Ib) : Prop :=
  w.cell? ⟨b, o, none⟩ = some (.int .i64 x.g) ∧ w.cell? ⟨b, o + 1, none⟩ = some (.int .i64 x.k) ∧ w.cell? ⟨b, o + 2, none⟩ = some (.int .i64 x.v) ∧ w.cell? ⟨b, o + 3, none⟩ = some (.int .i64 x.p)
def RdI (w : World) (B : Nat) (A : Option Addr) (l : List Ib) : Prop :=
  0 < l.length → ∃ b o, A = some ⟨b, o, none⟩ ∧ b < B ∧ ∀ k, k < l.length → IAt w b (o + k * 4) (l.getD k Ib.zero)
/-- The value v is a slice of interface bytes that reads in w as l. -/
def IL (w : World) (B : Nat) (v : Value) (l : List Ib) : Prop :=
  ∃ (A : Option Addr) (c : Nat), v = .slice A l.length c ∧ l.length ≤ c ∧ c ≤ maxLen ∧ RdI w B A l

section
variable {w w' : World} {B B' : Nat} {v : Value}

theorem NL.keep {l : List Int} (h : NL w B v l) (hB : B ≤ B') (hk : ∀ p : Addr, p.block < B → w'.cell? p = w.cell? p) : NL w' B' v l := by
  obtain ⟨A, c, hv, h1, h2, h3⟩ := h
  refine ⟨A, c, hv, h1, h2, fun hp => ?_⟩
  obtain ⟨b, o, hA, hb, hc⟩ := h3 hp
  exact ⟨b, o, hA, by omega, fun k hk' => (hk ⟨b, o + k, none⟩ hb).trans (hc k hk')⟩
theorem IAt.keep {b o : Nat} {x : Ib} (h : IAt w b o x) (hb : b < B) (hk : ∀ p : Addr, p.block < B → w'.cell? p = w.cell? p) : IAt w' b o x :=
  ⟨(hk ⟨b, o, none⟩ hb).trans h.1, (hk ⟨b, o + 1, none⟩ hb).trans h.2.1, (hk ⟨b, o + 2, none⟩ hb).trans h.2.2.1, (hk ⟨b, o + 3, none⟩ hb).trans h.2.2.2⟩
theorem IL.keep {l : List Ib} (h : IL w B v l) (hB : B ≤ B') (hk : ∀ p : Addr, p.block < B → w'.cell? p = w.cell? p) : IL w' B' v l := by
  obtain ⟨A, c, hv, h1, h2, h3⟩ := h
  refine ⟨A, c, hv, h1, h2, fun hp => ?_⟩
  obtain ⟨b, o, hA, hb, hc⟩ := h3 hp
  exact ⟨b, o, hA, by omega, fun k hk' => (hc k hk').keep hb hk⟩
theorem NL.on {l : List Int} (h : NL w w.heap.size v l) (hb : Below w.heap.size w w') : NL w' w'.heap.size v l := h.keep hb.size fun _ hp => hb.cell hp
theorem IL.on {l : List Ib} (h : IL w w.heap.size v l) (hb : Below w.heap.size w w') : IL w' w'.heap.size v l := h.keep hb.size fun _ hp => hb.cell hp
theorem NL.nil (w : World) (B c : Nat) (A : Option Addr) (hc : c ≤ maxLen) : NL w B (.slice A 0 c) [] := ⟨A, c, rfl, Nat.zero_le _, hc, fun h => absurd h (by simp)⟩
theorem IL.nil (w : World) (B c : Nat) (A : Option Addr) (hc : c ≤ maxLen) : IL w B (.slice A 0 c) [] := ⟨A, c, rfl, Nat.zero_le _, hc, fun h => absurd h (by simp)⟩
end

/-- The place of a number in a list, from the beginning, or -1. -/
def idxN (l : List Int) (x : Int) : Int := if x ∈ l then (l.idxOf x : Int) else -1

end Go.Proofs.YtnbggokmiokhlaaDoor
