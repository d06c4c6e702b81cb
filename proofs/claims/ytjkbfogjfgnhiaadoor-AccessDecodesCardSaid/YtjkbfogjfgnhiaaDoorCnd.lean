/-
  Trees of conditions, and how a slice of them lies in memory.
-/
import Derived.Test.YtjkbfogjfgnhiaaDoorMem
import Derived.Test.YtjkbfogjfgnhiaaDoorOwn
namespace Go.Proofs.YtjkbfogjfgnhiaaDoor
set_option linter.unusedVariables false
set_option linter.unusedSimpArgs false
open Go.RowKit

inductive Cn where
  | mk (op n : Int) (kids : List Cn)
def Cn.op : Cn → Int | .mk t _ _ => t
def Cn.n : Cn → Int | .mk _ v _ => v
def Cn.kids : Cn → List Cn | .mk _ _ k => k
def Cn.zero : Cn := .mk 0 0 []

mutual
/-- The condition t lies at three cells from ⟨b, o⟩ on; all of it below block B. -/
def CnAt (w : World) (B b o : Nat) : Cn → Prop
  | .mk op n kids => w.cell? ⟨b, o, none⟩ = some (.int .i64 op) ∧ w.cell? ⟨b, o + 1, none⟩ = some (.int .i64 n) ∧
      ∃ A c, w.cell? ⟨b, o + 2, none⟩ = some (.slice A kids.length c) ∧ kids.length ≤ c ∧ c ≤ maxLen ∧ (0 < kids.length → ∃ b' o', A = some ⟨b', o', none⟩ ∧ b' < B ∧ CnsAt w B b' o' kids)
def CnsAt (w : World) (B b o : Nat) : List Cn → Prop
  | [] => True
  | t :: ts => CnAt w B b o t ∧ CnsAt w B b (o + 3) ts
end
/-- v is a slice of conditions that reads as ts. -/
def KL (w : World) (B : Nat) (v : Value) (ts : List Cn) : Prop :=
  ∃ A c, v = .slice A ts.length c ∧ ts.length ≤ c ∧ c ≤ maxLen ∧ Hid (0 < ts.length → ∃ b o, A = some ⟨b, o, none⟩ ∧ b < B ∧ CnsAt w B b o ts)

theorem CnAt.parts {w : World} {B b o : Nat} {t : Cn} (h : CnAt w B b o t) : w.cell? ⟨b, o, none⟩ = some (.int .i64 t.op) ∧ w.cell? ⟨b, o + 1, none⟩ = some (.int .i64 t.n) ∧
    ∃ u, w.cell? ⟨b, o + 2, none⟩ = some u ∧ KL w B u t.kids := by
  cases t with
  | mk op n kids =>
    unfold CnAt at h
    obtain ⟨h1, h2, A, c, h3, h4, h5, h6⟩ := h
    exact ⟨h1, h2, _, h3, A, c, rfl, h4, h5, h6⟩
theorem CnAt.cells {w : World} {B b o : Nat} {t : Cn} (h : CnAt w B b o t) : ∃ A c, w.cell? ⟨b, o, none⟩ = some (.int .i64 t.op) ∧ w.cell? ⟨b, o + 1, none⟩ = some (.int .i64 t.n) ∧
    w.cell? ⟨b, o + 2, none⟩ = some (.slice A t.kids.length c) ∧ KL w B (.slice A t.kids.length c) t.kids := by
  obtain ⟨h1, h2, u, h4, h5⟩ := h.parts
  have h5' := h5
  obtain ⟨A2, c2, rfl, _⟩ := h5'
  exact ⟨A2, c2, h1, h2, h4, h5⟩
theorem CnAt.make {w : World} {B b o : Nat} {t : Cn} (h1 : w.cell? ⟨b, o, none⟩ = some (.int .i64 t.op)) (h2 : w.cell? ⟨b, o + 1, none⟩ = some (.int .i64 t.n))
    (h3 : ∃ u, w.cell? ⟨b, o + 2, none⟩ = some u ∧ KL w B u t.kids) : CnAt w B b o t := by
  cases t with
  | mk op n kids =>
    unfold CnAt
    obtain ⟨u, h3, A, c, rfl, h4, h5, h6⟩ := h3
    exact ⟨h1, h2, A, c, h3, h4, h5, h6⟩
theorem CnsAt.get {w : World} {B b : Nat} : ∀ {ts : List Cn} {o k : Nat}, CnsAt w B b o ts → (h : k < ts.length) → CnAt w B b (o + k * 3) ts[k]
  | t :: ts, o, 0, h, _ => by unfold CnsAt at h; simpa using h.1
  | t :: ts, o, k + 1, h, hk => by
    unfold CnsAt at h
    have := CnsAt.get (k := k) h.2 (by simpa using hk)
    rw [show o + (k + 1) * 3 = o + 3 + k * 3 by omega]
    exact this

mutual
theorem CnAt.keep {w w' : World} {B B' : Nat} (hB : B ≤ B') (hk : ∀ p : Addr, p.block < B → w'.cell? p = w.cell? p) : ∀ (t : Cn) (b o : Nat), b < B → CnAt w B b o t → CnAt w' B' b o t
  | .mk op n kids, b, o, hb, h => by
    unfold CnAt at h ⊢
    obtain ⟨h1, h2, A, c, h3, h4, h5, h6⟩ := h
    refine ⟨(hk ⟨b, o, none⟩ hb).trans h1, (hk ⟨b, o + 1, none⟩ hb).trans h2, A, c, (hk ⟨b, o + 2, none⟩ hb).trans h3, h4, h5, fun hp => ?_⟩
    obtain ⟨b', o', hA, hb', hts⟩ := h6 hp
    exact ⟨b', o', hA, by omega, CnsAt.keep hB hk kids b' o' hb' hts⟩
theorem CnsAt.keep {w w' : World} {B B' : Nat} (hB : B ≤ B') (hk : ∀ p : Addr, p.block < B → w'.cell? p = w.cell? p) : ∀ (ts : List Cn) (b o : Nat), b < B → CnsAt w B b o ts → CnsAt w' B' b o ts
  | [], _, _, _, _ => by unfold CnsAt; trivial
  | t :: ts, b, o, hb, h => by
    unfold CnsAt at h ⊢
    exact ⟨CnAt.keep hB hk t b o hb h.1, CnsAt.keep hB hk ts b (o + 3) hb h.2⟩
end
theorem KL.keep {w w' : World} {B B' : Nat} {v : Value} {ts : List Cn} (h : KL w B v ts) (hB : B ≤ B') (hk : ∀ p : Addr, p.block < B → w'.cell? p = w.cell? p) : KL w' B' v ts := by
  obtain ⟨A, c, hv, h1, h2, h3⟩ := h
  refine ⟨A, c, hv, h1, h2, fun hp => ?_⟩
  obtain ⟨b, o, hA, hb, hts⟩ := h3.out hp
  exact ⟨b, o, hA, by omega, CnsAt.keep hB hk ts b o hb hts⟩
theorem KL.below {w w' : World} {B : Nat} {v : Value} {ts : List Cn} (h : KL w B v ts) (hb : Below B w w') : KL w' B v ts := h.keep (Nat.le_refl _) fun _ hp => hb.cell hp
theorem KL.on {w w' : World} {v : Value} {ts : List Cn} (h : KL w w.heap.size v ts) (hb : Below w.heap.size w w') : KL w' w'.heap.size v ts := h.keep hb.size fun _ hp => hb.cell hp
theorem KL.more {w : World} {B B' : Nat} {v : Value} {ts : List Cn} (h : KL w B v ts) (hB : B ≤ B') : KL w B' v ts := h.keep hB fun _ _ => rfl
theorem KL.nil (w : World) (B c : Nat) (A : Option Addr) (hc : c ≤ maxLen) : KL w B (.slice A 0 c) [] := ⟨A, c, rfl, Nat.zero_le _, hc, fun hp => absurd hp (by simp)⟩

mutual
def Cn.dep : Cn → Nat | .mk _ _ kids => depK kids + 1
def depK : List Cn → Nat | [] => 0 | t :: ts => max t.dep (depK ts)
end
theorem dep_kids (t : Cn) : depK t.kids + 1 = t.dep := by cases t; simp [Cn.kids, Cn.dep]
theorem depK_get : ∀ (ts : List Cn) (k : Nat) (h : k < ts.length), (ts[k]).dep ≤ depK ts
  | t :: ts, 0, _ => by simp [depK]; omega
  | t :: ts, k + 1, h => by
    have := depK_get ts k (by simpa using h)
    simp [depK]
    omega
mutual
def Cn.cnt : Cn → Nat | .mk _ _ kids => cntK kids + 1
def cntK : List Cn → Nat | [] => 0 | t :: ts => t.cnt + cntK ts
end
theorem cnt_kids (t : Cn) : cntK t.kids + 1 = t.cnt := by cases t; simp [Cn.kids, Cn.cnt]
theorem cntK_get : ∀ (ts : List Cn) (k : Nat) (h : k < ts.length), (ts[k]).cnt ≤ cntK ts
  | t :: ts, 0, _ => by simp [cntK]
  | t :: ts, k + 1, h => by
    have := cntK_get ts k (by simpa using h)
    simp [cntK]
    omega
theorem cntK_drop (ts : List Cn) (k : Nat) (h : k < ts.length) : cntK (ts.drop k) = (ts[k]).cnt + cntK (ts.drop (k + 1)) := by rw [List.drop_eq_getElem_cons h, cntK]
theorem depK_drop (ts : List Cn) (k : Nat) (h : k < ts.length) : depK (ts.drop k) = max (ts[k]).dep (depK (ts.drop (k + 1))) := by rw [List.drop_eq_getElem_cons h, depK]
mutual
theorem Cn.dep_cnt : ∀ t : Cn, t.dep ≤ t.cnt
  | .mk op n kids => by have := dep_cntK kids; rw [Cn.dep, Cn.cnt]; omega
theorem dep_cntK : ∀ ts : List Cn, depK ts ≤ cntK ts
  | [] => by simp [depK, cntK]
  | t :: ts => by have h1 := Cn.dep_cnt t; have h2 := dep_cntK ts; rw [depK, cntK]; omega
end
theorem cntK_len : ∀ ts : List Cn, ts.length ≤ cntK ts
  | [] => by simp [cntK]
  | t :: ts => by
    have h1 := cntK_len ts
    have h2 := cnt_kids t
    rw [cntK, List.length_cons]
    omega

/-- Whether a node with k kids is valid. -/
def lvN (n : Int) : Bool := decide (1 ≤ n) && decide (n ≤ 51) && decide (n.toNat &&& 51 = n.toNat)
def okN (op n : Int) (k : Nat) : Bool :=
  if op = 0 then decide (n = 0) && decide (k = 0)
  else if op = 1 then decide (n = 0) && decide (k = 0)
  else if op = 2 then decide (1 ≤ n) && decide (n ≤ 8) && decide (k = 0)
  else if op = 3 then decide (1 ≤ n) && decide (n ≤ 8) && decide (k = 0)
  else if op = 4 then decide (1 ≤ n) && decide (n ≤ 5) && decide (k = 0)
  else if op = 5 then lvN n && decide (k = 0)
  else if op = 6 then decide (n = 0) && decide (0 < k)
  else if op = 7 then decide (n = 0) && decide (0 < k)
  else false
mutual
def Cn.ok : Cn → Bool | .mk op n kids => okN op n kids.length && okK kids
def okK : List Cn → Bool | [] => true | t :: ts => t.ok && okK ts
end
theorem ok_parts (t : Cn) : t.ok = (okN t.op t.n t.kids.length && okK t.kids) := by cases t; rw [Cn.ok]; rfl
theorem okK_drop (ts : List Cn) (k : Nat) (h : k < ts.length) : okK (ts.drop k) = ((ts[k]).ok && okK (ts.drop (k + 1))) := by rw [List.drop_eq_getElem_cons h, okK]
theorem okK_get : ∀ (ts : List Cn) (k : Nat) (h : k < ts.length), okK ts = true → (ts[k]).ok = true
  | t :: ts, 0, _, h => by rw [okK, Bool.and_eq_true] at h; exact h.1
  | t :: ts, k + 1, hk, h => by
    rw [okK, Bool.and_eq_true] at h
    exact okK_get ts k (by simpa using hk) h.2

/-- What Check answers: 0, or 3 (ErrArg), or 2 (ErrLong); their numbers are those of the errors. -/
def chkC (eArg eLong : Int) (t : Cn) : Int := if t.ok then (if 16 < t.cnt ∨ 8 < t.dep then eLong else 0) else eArg
end Go.Proofs.YtjkbfogjfgnhiaaDoor
