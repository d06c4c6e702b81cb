/-
  Plain mathematics of layer 6: blocks, their kinds, their encoding; no program in it.
-/
import Derived.Test.YtnbggokmiokhlaaDoorCmp
import Derived.Test.YtnbggokmiokhlaaDoorCrc
namespace Go.Proofs.YtnbggokmiokhlaaDoor
set_option linter.unusedVariables false
set_option linter.unusedSimpArgs false
open Go.RowKit

structure Bk where
  nad : Int
  kind : Int
  seq : Int
  more : Bool
  code : Int
  ans : Bool
  inf : List UInt8
def Bk.val (b : Bk) (v : Value) : Value := .agg #[.int .i64 b.nad, .int .i64 b.kind, .int .i64 b.seq, .bool b.more, .int .i64 b.code, .bool b.ans, v]
def zeroB : Bk := ⟨0, 0, 0, false, 0, false, []⟩

inductive Kd where
  | inf (seq : Int) (more : Bool)
  | rdy (seq code : Int)
  | sup (code : Int) (ans : Bool)

def compB (n : Int) (k : Kd) (l : List UInt8) : Bk := match k with
  | .inf s m => ⟨n, 0, s, m, 0, false, l⟩
  | .rdy s c => ⟨n, 1, s, false, c, false, l⟩
  | .sup c a => ⟨n, 2, 0, false, c, a, l⟩
def isBit (n : Int) : Bool := n == 0 || n == 1
def isRc (n : Int) : Bool := n == 0 || n == 1 || n == 2
def isSc (n : Int) : Bool := n == 0 || n == 1 || n == 2 || n == 3
def Kd.rng : Kd → Bool
  | .inf s _ => isBit s
  | .rdy s c => isBit s && isRc c
  | .sup c _ => isSc c
def emptyE (l : List UInt8) : Int := if l.length = 0 then 0 else 4
def numE (l : List UInt8) (g : Nat) : Int := if l.length = 1 ∧ 1 ≤ (l.getD 0 0).toNat ∧ (l.getD 0 0).toNat ≤ g then 0 else 4
def Kd.infE : Kd → List UInt8 → Int
  | .inf _ _, l => if 254 < l.length then 3 else 0
  | .rdy _ _, l => emptyE l
  | .sup c _, l => if c = 1 then numE l 254 else if c = 3 then numE l 255 else emptyE l
def okNad (n : Int) : Bool := decide (0 ≤ n) && decide (n ≤ 254)
/-- The parts of a block that its kind does not have are zero. -/
def clean (b : Bk) : Kd → Bool
  | .inf _ _ => b.code == 0 && !b.ans
  | .rdy _ _ => !b.more && !b.ans
  | .sup _ _ => b.seq == 0 && !b.more
def chkK (b : Bk) (k : Kd) : Int := if okNad b.nad && k.rng then (if clean b k then k.infE b.inf else 4) else 2
/-- The error of Check. -/
def chkB (b : Bk) : Int := if b.kind = 0 then chkK b (.inf b.seq b.more) else if b.kind = 1 then chkK b (.rdy b.seq b.code) else if b.kind = 2 then chkK b (.sup b.code b.ans) else 1

def sameB (a b : Bk) : Bool := a.nad == b.nad && a.kind == b.kind && a.seq == b.seq && a.more == b.more && a.code == b.code && a.ans == b.ans && a.inf == b.inf
theorem sameB_self (a : Bk) : sameB a a = true := by simp [sameB]
theorem sameB_eq {a b : Bk} (h : sameB a b = true) : a = b := by
  obtain ⟨a1, a2, a3, a4, a5, a6, a7⟩ := a
  obtain ⟨b1, b2, b3, b4, b5, b6, b7⟩ := b
  simp [sameB] at h
  obtain ⟨⟨⟨⟨⟨⟨rfl, rfl⟩, rfl⟩, rfl⟩, rfl⟩, rfl⟩, rfl⟩ := h
  rfl
theorem sameB_comm (a b : Bk) : sameB a b = sameB b a := by
  rw [Bool.eq_iff_iff]
  exact ⟨fun h => by rw [sameB_eq h]; exact sameB_self b, fun h => by rw [sameB_eq h]; exact sameB_self a⟩

/-- The control byte of a kind in range. -/
def Kd.ctl : Kd → Nat
  | .inf s m => (if s = 1 then 64 else 0) + (if m then 32 else 0)
  | .rdy s c => 128 + (if s = 1 then 16 else 0) + c.toNat
  | .sup c a => 192 + (if a then 32 else 0) + c.toNat
/-- What a control byte tells. -/
def kdC (c : Nat) : Kd :=
  if c < 128 then .inf (c / 64 : Nat) (c / 32 % 2 == 1)
  else if c < 192 then .rdy (c / 16 % 2 : Nat) (c % 16 + (c / 32 % 2) * 32 : Nat)
  else .sup (c % 32 : Nat) (decide (224 ≤ c))
def okC (c : Nat) : Bool := if c < 128 then c % 32 == 0 else if c < 192 then c < 160 && decide (c % 16 ≤ 2) else decide (c % 32 ≤ 3)

theorem bit_cases {n : Int} (h : isBit n = true) : n = 0 ∨ n = 1 := by simpa [isBit] using h
theorem rc_cases {n : Int} (h : isRc n = true) : n = 0 ∨ n = 1 ∨ n = 2 := by
  simp [isRc] at h; omega
theorem sc_cases {n : Int} (h : isSc n = true) : n = 0 ∨ n = 1 ∨ n = 2 ∨ n = 3 := by
  simp [isSc] at h; omega
theorem okC_iff (c : Nat) (h : c < 256) : okC c = ((kdC c).rng && ((kdC c).ctl == c)) := by
  have : ∀ c : Fin 256, okC c.val = ((kdC c.val).rng && ((kdC c.val).ctl == c.val)) := by decide +kernel
  exact this ⟨c, h⟩
theorem ctl_lt {k : Kd} (h : k.rng = true) : k.ctl < 256 := by
  cases k with
  | inf s m => cases m <;> (simp only [Kd.ctl]; split <;> simp)
  | rdy s c =>
    simp only [Kd.rng, Bool.and_eq_true] at h
    have := rc_cases h.2
    simp only [Kd.ctl]; split <;> omega
  | sup c a =>
    have := sc_cases h
    simp only [Kd.ctl]; split <;> omega
theorem kdC_ctl {k : Kd} (h : k.rng = true) : kdC k.ctl = k := by
  cases k with
  | inf s m =>
    rcases bit_cases h with rfl | rfl <;> cases m <;> rfl
  | rdy s c =>
    simp only [Kd.rng, Bool.and_eq_true] at h
    rcases bit_cases h.1 with rfl | rfl <;> rcases rc_cases h.2 with rfl | rfl | rfl <;> rfl
  | sup c a =>
    rcases sc_cases h with rfl | rfl | rfl | rfl <;> cases a <;> rfl
theorem okC_ctl {k : Kd} (h : k.rng = true) : okC k.ctl = true := by
  rw [okC_iff _ (ctl_lt h), kdC_ctl h, h]; simp

/-- The kind of a block. -/
def kdOf (b : Bk) : Kd := if b.kind = 0 then .inf b.seq b.more else if b.kind = 1 then .rdy b.seq b.code else .sup b.code b.ans
theorem chk_ok {b : Bk} (h : chkB b = 0) : okNad b.nad = true ∧ (kdOf b).rng = true ∧ b = compB b.nad (kdOf b) b.inf ∧ (kdOf b).infE b.inf = 0 ∧ (b.kind = 0 ∨ b.kind = 1 ∨ b.kind = 2) := by
  have aux : ∀ k, chkK b k = 0 → okNad b.nad = true ∧ k.rng = true ∧ clean b k = true ∧ k.infE b.inf = 0 := by
    intro k hk
    unfold chkK at hk
    split at hk
    · rename_i h1
      split at hk
      · rename_i h2
        rw [Bool.and_eq_true] at h1
        exact ⟨h1.1, h1.2, h2, hk⟩
      · omega
    · omega
  unfold chkB at h
  obtain ⟨nad, kind, seq, more, code, ans, inf⟩ := b
  simp only [kdOf] at *
  split at h
  · rename_i h0
    subst h0
    obtain ⟨a1, a2, a3, a4⟩ := aux _ h
    simp [clean] at a3
    obtain ⟨rfl, rfl⟩ := a3
    exact ⟨a1, a2, rfl, a4, .inl rfl⟩
  · split at h
    · rename_i h0
      subst h0
      obtain ⟨a1, a2, a3, a4⟩ := aux _ h
      simp [clean] at a3
      obtain ⟨rfl, rfl⟩ := a3
      exact ⟨a1, a2, rfl, a4, .inr (.inl rfl)⟩
    · split at h
      · rename_i h0
        subst h0
        obtain ⟨a1, a2, a3, a4⟩ := aux _ h
        simp [clean] at a3
        obtain ⟨rfl, rfl⟩ := a3
        exact ⟨a1, a2, rfl, a4, .inr (.inr rfl)⟩
      · omega
theorem infE_len {k : Kd} {l : List UInt8} (h : k.infE l = 0) : l.length ≤ 254 := by
  cases k with
  | inf s m => simp only [Kd.infE] at h; split at h <;> omega
  | rdy s c => simp only [Kd.infE, emptyE] at h; split at h <;> omega
  | sup c a =>
    simp only [Kd.infE, emptyE, numE] at h
    split at h
    · split at h <;> omega
    · split at h
      · split at h <;> omega
      · split at h <;> omega
theorem kdOf_comp (n : Int) (k : Kd) (l : List UInt8) : kdOf (compB n k l) = k := by cases k <;> rfl
theorem chk_comp (n : Int) (k : Kd) (l : List UInt8) : chkB (compB n k l) = if okNad n && k.rng then k.infE l else 2 := by
  cases k <;> simp [chkB, compB, chkK, clean]

/-- The bytes of a block ahead of the check value. -/
def rawL (b : Bk) : List UInt8 := [UInt8.ofNat b.nad.toNat, UInt8.ofNat (kdOf b).ctl, UInt8.ofNat b.inf.length] ++ b.inf
def benE (k : Int) (b : Bk) : Int := if sizeK k = 0 then 1 else chkB b
def benV (k : Int) (b : Bk) : List UInt8 := if benE k b = 0 then rawL b ++ sumL k (rawL b) else []

end Go.Proofs.YtnbggokmiokhlaaDoor
