/-
  Trees of data objects, and how a slice of them lies in memory.
-/
import Derived.Test.YtahnmnbjgbfeaaaTag
namespace Go.Proofs.Ytahnmnbjgbfeaaa
set_option linter.unusedVariables false
set_option linter.unusedSimpArgs false
open Go.RowKit

inductive T where
  | mk (tag : Int) (val : List UInt8) (kids : List T)
def T.tag : T → Int | .mk t _ _ => t
def T.val : T → List UInt8 | .mk _ v _ => v
def T.kids : T → List T | .mk _ _ k => k
def T.zero : T := .mk 0 [] []

mutual
/-- The object t lies at three cells from ⟨b, o⟩ on; all of it below block B. -/
def TAt (w : World) (B b o : Nat) : T → Prop
  | .mk tag val kids => w.cell? ⟨b, o, none⟩ = some (.int .i64 tag) ∧ (∃ v, w.cell? ⟨b, o + 1, none⟩ = some v ∧ SL w B v val) ∧
      ∃ A c, w.cell? ⟨b, o + 2, none⟩ = some (.slice A kids.length c) ∧ kids.length ≤ c ∧ c ≤ maxLen ∧ (0 < kids.length → ∃ b' o', A = some ⟨b', o', none⟩ ∧ b' < B ∧ TsAt w B b' o' kids)
def TsAt (w : World) (B b o : Nat) : List T → Prop
  | [] => True
  | t :: ts => TAt w B b o t ∧ TsAt w B b (o + 3) ts
end
/-- v is a slice of data objects that reads as ts. -/
def TL (w : World) (B : Nat) (v : Value) (ts : List T) : Prop :=
  ∃ A c, v = .slice A ts.length c ∧ ts.length ≤ c ∧ c ≤ maxLen ∧ Hid (0 < ts.length → ∃ b o, A = some ⟨b, o, none⟩ ∧ b < B ∧ TsAt w B b o ts)

theorem TAt.parts {w : World} {B b o : Nat} {t : T} (h : TAt w B b o t) : w.cell? ⟨b, o, none⟩ = some (.int .i64 t.tag) ∧ (∃ v, w.cell? ⟨b, o + 1, none⟩ = some v ∧ SL w B v t.val) ∧
    ∃ u, w.cell? ⟨b, o + 2, none⟩ = some u ∧ TL w B u t.kids := by
  cases t with
  | mk tag val kids =>
    unfold TAt at h
    obtain ⟨h1, h2, A, c, h3, h4, h5, h6⟩ := h
    exact ⟨h1, h2, _, h3, A, c, rfl, h4, h5, h6⟩
theorem TAt.cells {w : World} {B b o : Nat} {t : T} (h : TAt w B b o t) : ∃ A1 c1 A2 c2, w.cell? ⟨b, o, none⟩ = some (.int .i64 t.tag) ∧ w.cell? ⟨b, o + 1, none⟩ = some (.slice A1 t.val.length c1) ∧
    w.cell? ⟨b, o + 2, none⟩ = some (.slice A2 t.kids.length c2) ∧ SL w B (.slice A1 t.val.length c1) t.val ∧ TL w B (.slice A2 t.kids.length c2) t.kids := by
  obtain ⟨h1, ⟨v, h2, h3⟩, u, h4, h5⟩ := h.parts
  have h3' := h3
  have h5' := h5
  obtain ⟨A1, c1, rfl, _⟩ := h3'
  obtain ⟨A2, c2, rfl, _⟩ := h5'
  exact ⟨A1, c1, A2, c2, h1, h2, h4, h3, h5⟩
theorem TAt.make {w : World} {B b o : Nat} {t : T} (h1 : w.cell? ⟨b, o, none⟩ = some (.int .i64 t.tag)) (h2 : ∃ v, w.cell? ⟨b, o + 1, none⟩ = some v ∧ SL w B v t.val)
    (h3 : ∃ u, w.cell? ⟨b, o + 2, none⟩ = some u ∧ TL w B u t.kids) : TAt w B b o t := by
  cases t with
  | mk tag val kids =>
    unfold TAt
    obtain ⟨u, h3, A, c, rfl, h4, h5, h6⟩ := h3
    exact ⟨h1, h2, A, c, h3, h4, h5, h6⟩
theorem TsAt.get {w : World} {B b : Nat} : ∀ {ts : List T} {o k : Nat}, TsAt w B b o ts → (h : k < ts.length) → TAt w B b (o + k * 3) ts[k]
  | t :: ts, o, 0, h, _ => by unfold TsAt at h; exact h.1
  | t :: ts, o, k + 1, h, hk => by
    unfold TsAt at h
    have := TsAt.get (k := k) h.2 (by simpa using hk)
    rw [show o + (k + 1) * 3 = o + 3 + k * 3 by omega]
    exact this

mutual
theorem TAt.keep {w w' : World} {B B' : Nat} (hB : B ≤ B') (hk : ∀ p : Addr, p.block < B → w'.cell? p = w.cell? p) : ∀ (t : T) (b o : Nat), b < B → TAt w B b o t → TAt w' B' b o t
  | .mk tag val kids, b, o, hb, h => by
    unfold TAt at h ⊢
    obtain ⟨h1, ⟨v, h2, h2'⟩, A, c, h3, h4, h5, h6⟩ := h
    refine ⟨(hk ⟨b, o, none⟩ hb).trans h1, ⟨v, (hk ⟨b, o + 1, none⟩ hb).trans h2, (h2'.keep hk).more hB⟩, A, c, (hk ⟨b, o + 2, none⟩ hb).trans h3, h4, h5, fun hp => ?_⟩
    obtain ⟨b', o', hA, hb', hts⟩ := h6 hp
    exact ⟨b', o', hA, by omega, TsAt.keep hB hk kids b' o' hb' hts⟩
theorem TsAt.keep {w w' : World} {B B' : Nat} (hB : B ≤ B') (hk : ∀ p : Addr, p.block < B → w'.cell? p = w.cell? p) : ∀ (ts : List T) (b o : Nat), b < B → TsAt w B b o ts → TsAt w' B' b o ts
  | [], _, _, _, _ => by unfold TsAt; trivial
  | t :: ts, b, o, hb, h => by
    unfold TsAt at h ⊢
    exact ⟨TAt.keep hB hk t b o hb h.1, TsAt.keep hB hk ts b (o + 3) hb h.2⟩
end
theorem TL.keep {w w' : World} {B B' : Nat} {v : Value} {ts : List T} (h : TL w B v ts) (hB : B ≤ B') (hk : ∀ p : Addr, p.block < B → w'.cell? p = w.cell? p) : TL w' B' v ts := by
  obtain ⟨A, c, hv, h1, h2, h3⟩ := h
  refine ⟨A, c, hv, h1, h2, fun hp => ?_⟩
  obtain ⟨b, o, hA, hb, hts⟩ := h3.out hp
  exact ⟨b, o, hA, by omega, TsAt.keep hB hk ts b o hb hts⟩
theorem TL.below {w w' : World} {B : Nat} {v : Value} {ts : List T} (h : TL w B v ts) (hb : Below B w w') : TL w' B v ts := h.keep (Nat.le_refl _) fun _ hp => hb.cell hp
theorem TL.on {w w' : World} {v : Value} {ts : List T} (h : TL w w.heap.size v ts) (hb : Below w.heap.size w w') : TL w' w'.heap.size v ts := h.keep hb.size fun _ hp => hb.cell hp

mutual
def T.dep : T → Nat | .mk _ _ kids => depL kids + 1
def depL : List T → Nat | [] => 0 | t :: ts => max t.dep (depL ts)
end
theorem dep_kids (t : T) : depL t.kids + 1 = t.dep := by cases t; simp [T.kids, T.dep]
theorem depL_get : ∀ (ts : List T) (k : Nat) (h : k < ts.length), (ts[k]).dep ≤ depL ts
  | t :: ts, 0, _ => by simp [depL]; omega
  | t :: ts, k + 1, h => by
    have := depL_get ts k (by simpa using h)
    simp [depL]
    omega

/-- The bytes of a tag, and of a length. -/
def tagF (t : Int) : List UInt8 := if 255 < t then putL t.toNat 2 else putL t.toNat 1
def lenF (n : Nat) : List UInt8 := if n < 128 then [UInt8.ofNat n] else if n ≤ 255 then [129, UInt8.ofNat n] else [130, UInt8.ofNat (n / 256), UInt8.ofNat n]

def objOk (t : T) : Bool := if consB t.tag then decide (t.val.length = 0) else validB t.tag && decide (t.kids.length = 0)
mutual
def T.ok (d : Int) : T → Bool | .mk tag val kids => decide (d ≤ 8) && objOk (.mk tag val kids) && okL (d + 1) kids
def okL (d : Int) : List T → Bool | [] => true | t :: ts => t.ok d && okL d ts
end
theorem ok_parts (d : Int) (t : T) : t.ok d = (decide (d ≤ 8) && objOk t && okL (d + 1) t.kids) := by cases t; simp [T.ok, T.kids]
mutual
def T.enc : T → List UInt8 | .mk tag val kids => tagF tag ++ (lenF (val ++ encL kids).length ++ (val ++ encL kids))
def encL : List T → List UInt8 | [] => [] | t :: ts => t.enc ++ encL ts
end
theorem enc_parts (t : T) : t.enc = tagF t.tag ++ (lenF (t.val ++ encL t.kids).length ++ (t.val ++ encL t.kids)) := by cases t; simp [T.enc, T.tag, T.val, T.kids]
theorem encL_take (ts : List T) (k : Nat) (h : k < ts.length) : encL (ts.take (k + 1)) = encL (ts.take k) ++ (ts[k]).enc := by
  induction ts generalizing k with
  | nil => simp at h
  | cons t ts ih =>
    cases k with
    | zero => simp [encL]
    | succ k =>
      have := ih k (by simpa using h)
      simp [encL] at this ⊢
      rw [this]
theorem okL_get (d : Int) : ∀ (ts : List T) (k : Nat) (h : k < ts.length), okL d ts = true → (ts[k]).ok d = true
  | t :: ts, 0, _, h => by simp [okL] at h; exact h.1
  | t :: ts, k + 1, hk, h => by
    simp [okL] at h
    exact okL_get d ts k (by simpa using hk) h.2
theorem okL_drop (d : Int) (ts : List T) (k : Nat) (h : k < ts.length) : okL d (ts.drop k) = ((ts[k]).ok d && okL d (ts.drop (k + 1))) := by
  rw [List.drop_eq_getElem_cons h, okL]
end Go.Proofs.Ytahnmnbjgbfeaaa
