/-
  Pages as data: frames, homes, turns; the frame that is found; what a write leaves (mathematics).
-/
import Derived.Test.YtiholfpcndjliaaDoorEco
import Derived.Test.YtiholfpcndjliaaDoorEcn
namespace Go.Proofs.YtiholfpcndjliaaDoor
set_option linter.unusedVariables false
set_option linter.unusedSimpArgs false
open Go.RowKit

/-- The head of a frame: the page that it held last (-1: none), its turn. -/
structure Fr where
  pg : Int
  tn : Nat
/-- The frame of page j among the first k frames: the one of the latest turn. -/
def homeR (fm : Nat → Fr) (j : Int) : Nat → Int
  | 0 => -1
  | k + 1 => if (fm k).pg = j ∧ (homeR fm j k = -1 ∨ (fm (homeR fm j k).toNat).tn < (fm k).tn) then (k : Int) else homeR fm j k
/-- The latest turn of the first k frames. -/
def turnR (fm : Nat → Fr) : Nat → Nat
  | 0 => 0
  | k + 1 => max (turnR fm k) (fm k).tn
/-- The frame of the earliest turn among those of the first k that are chosen. -/
def firstR (sel : Nat → Bool) (fm : Nat → Fr) : Nat → Int
  | 0 => -1
  | k + 1 => if sel k = true ∧ (firstR sel fm k = -1 ∨ (fm k).tn < (fm (firstR sel fm k).toNat).tn) then (k : Int) else firstR sel fm k

def IsH (fm : Nat → Fr) (j : Int) (k : Nat) (h : Int) : Prop :=
  (h = -1 ∧ ∀ i, i < k → (fm i).pg ≠ j) ∨ ∃ m : Nat, m < k ∧ h = m ∧ (fm m).pg = j ∧ ∀ i, i < k → (fm i).pg = j → (fm i).tn ≤ (fm m).tn ∧ (i < m → (fm i).tn < (fm m).tn)
theorem homeR_is (fm : Nat → Fr) (j : Int) : ∀ k, IsH fm j k (homeR fm j k)
  | 0 => .inl ⟨rfl, fun i hi => absurd hi (by omega)⟩
  | k + 1 => by
    have ih := homeR_is fm j k
    unfold homeR
    split
    · rename_i hc
      refine .inr ⟨k, by omega, rfl, hc.1, fun i hi hp => ?_⟩
      by_cases e : i = k
      · subst e; exact ⟨Nat.le_refl _, fun h => absurd h (by omega)⟩
      · rcases ih with ⟨e1, h1⟩ | ⟨m, hm, e1, h1, h2⟩
        · exact absurd hp (h1 i (by omega))
        · have h3 := h2 i (by omega) hp
          rcases hc.2 with h4 | h4
          · omega
          · rw [e1, Int.toNat_natCast] at h4
            exact ⟨by omega, fun _ => by omega⟩
    · rename_i hc
      rcases ih with ⟨e1, h1⟩ | ⟨m, hm, e1, h1, h2⟩
      · refine .inl ⟨e1, fun i hi => ?_⟩
        by_cases e : i = k
        · subst e; intro hp; exact hc ⟨hp, .inl e1⟩
        · exact h1 i (by omega)
      · refine .inr ⟨m, by omega, e1, h1, fun i hi hp => ?_⟩
        by_cases e : i = k
        · subst e
          refine ⟨?_, fun h => by omega⟩
          rcases Nat.lt_or_ge (fm m).tn (fm i).tn with h4 | h4
          · exact absurd ⟨hp, .inr (by rw [e1, Int.toNat_natCast]; exact h4)⟩ hc
          · exact h4
        · exact h2 i (by omega) hp
theorem isH_one {fm : Nat → Fr} {j : Int} {k : Nat} {h h' : Int} (a : IsH fm j k h) (b : IsH fm j k h') : h = h' := by
  rcases a with ⟨e1, h1⟩ | ⟨m, hm, e1, h1, h2⟩ <;> rcases b with ⟨e2, g1⟩ | ⟨m', hm', e2, g1, g2⟩
  · rw [e1, e2]
  · exact absurd g1 (h1 _ hm')
  · exact absurd h1 (g1 _ hm)
  · have a1 := h2 m' hm' g1
    have a2 := g2 m hm h1
    have : m = m' := by omega
    rw [e1, e2, this]
theorem homeR_eq {fm : Nat → Fr} {j : Int} {k : Nat} {h : Int} (a : IsH fm j k h) : homeR fm j k = h := isH_one (homeR_is ..) a
theorem homeR_range (fm : Nat → Fr) (j : Int) (k : Nat) : homeR fm j k = -1 ∨ ∃ m : Nat, m < k ∧ homeR fm j k = m ∧ (fm m).pg = j := by
  rcases homeR_is fm j k with ⟨e, _⟩ | ⟨m, hm, e, h, _⟩
  · exact .inl e
  · exact .inr ⟨m, hm, e, h⟩
theorem turnR_le (fm : Nat → Fr) : ∀ k i, i < k → (fm i).tn ≤ turnR fm k
  | 0, i, h => absurd h (by omega)
  | k + 1, i, h => by
    unfold turnR
    by_cases e : i = k
    · subst e; exact Nat.le_max_right ..
    · exact Nat.le_trans (turnR_le fm k i (by omega)) (Nat.le_max_left ..)
theorem turnR_max (fm : Nat → Fr) (B : Nat) : ∀ k, (∀ i, i < k → (fm i).tn ≤ B) → turnR fm k ≤ B
  | 0, _ => Nat.zero_le _
  | k + 1, h => by
    unfold turnR
    exact Nat.max_le.2 ⟨turnR_max fm B k fun i hi => h i (by omega), h k (by omega)⟩
theorem turnR_eq {fm : Nat → Fr} {k f : Nat} {t : Nat} (hf : f < k) (h1 : (fm f).tn = t) (h2 : ∀ i, i < k → (fm i).tn ≤ t) : turnR fm k = t :=
  Nat.le_antisymm (turnR_max fm t k h2) (h1 ▸ turnR_le fm k f hf)
theorem homeR_congr {fm fm' : Nat → Fr} {j : Int} {k : Nat} (h : ∀ i, i < k → fm' i = fm i) : homeR fm' j k = homeR fm j k := by
  refine homeR_eq ?_
  rcases homeR_is fm j k with ⟨e, h1⟩ | ⟨m, hm, e, h1, h2⟩
  · exact .inl ⟨e, fun i hi => by rw [h i hi]; exact h1 i hi⟩
  · exact .inr ⟨m, hm, e, by rw [h m hm]; exact h1, fun i hi hp => by rw [h i hi] at hp ⊢; rw [h m hm]; exact h2 i hi hp⟩
theorem turnR_congr {fm fm' : Nat → Fr} : ∀ {k : Nat}, (∀ i, i < k → fm' i = fm i) → turnR fm' k = turnR fm k
  | 0, _ => rfl
  | k + 1, h => by unfold turnR; rw [turnR_congr fun i hi => h i (by omega), h k (by omega)]
/-- A frame that is not the frame of j, and becomes none, turns nothing. -/
theorem homeR_off {fm fm' : Nat → Fr} {j : Int} {k f : Nat} (h : ∀ i, i < k → i ≠ f → fm' i = fm i) (hf : homeR fm j k ≠ f) (hn : (fm' f).pg ≠ j) : homeR fm' j k = homeR fm j k := by
  refine homeR_eq ?_
  rcases homeR_is fm j k with ⟨e, h1⟩ | ⟨m, hm, e, h1, h2⟩
  · refine .inl ⟨e, fun i hi => ?_⟩
    by_cases ei : i = f
    · subst ei; exact hn
    · rw [h i hi ei]; exact h1 i hi
  · have hmf : m ≠ f := by intro e2; subst e2; exact hf e
    refine .inr ⟨m, hm, e, by rw [h m hm hmf]; exact h1, fun i hi hp => ?_⟩
    by_cases ei : i = f
    · subst ei; exact absurd hp hn
    · rw [h i hi ei] at hp ⊢; rw [h m hm hmf]; exact h2 i hi hp
/-- The frame that takes the latest turn is the page's. -/
theorem homeR_new {fm : Nat → Fr} {j : Int} {k f : Nat} (hf : f < k) (h1 : (fm f).pg = j) (h2 : ∀ i, i < k → i ≠ f → (fm i).tn < (fm f).tn) : homeR fm j k = f := by
  refine homeR_eq (.inr ⟨f, hf, rfl, h1, fun i hi _ => ?_⟩)
  by_cases e : i = f
  · subst e; exact ⟨Nat.le_refl _, fun h => absurd h (by omega)⟩
  · have := h2 i hi e; exact ⟨by omega, fun _ => this⟩

/-- What firstR finds. -/
theorem firstR_is (sel : Nat → Bool) (fm : Nat → Fr) : ∀ k, (firstR sel fm k = -1 ∧ ∀ i, i < k → sel i = false) ∨ ∃ m : Nat, m < k ∧ firstR sel fm k = m ∧ sel m = true ∧ ∀ i, i < k → sel i = true → (fm m).tn ≤ (fm i).tn
  | 0 => .inl ⟨rfl, fun i hi => absurd hi (by omega)⟩
  | k + 1 => by
    have ih := firstR_is sel fm k
    unfold firstR
    split
    · rename_i hc
      refine .inr ⟨k, by omega, rfl, hc.1, fun i hi hs => ?_⟩
      by_cases e : i = k
      · subst e; exact Nat.le_refl _
      · rcases ih with ⟨e1, h1⟩ | ⟨m, hm, e1, h1, h2⟩
        · rw [h1 i (by omega)] at hs; cases hs
        · have h3 := h2 i (by omega) hs
          rcases hc.2 with h4 | h4
          · omega
          · rw [e1, Int.toNat_natCast] at h4; omega
    · rename_i hc
      rcases ih with ⟨e1, h1⟩ | ⟨m, hm, e1, h1, h2⟩
      · refine .inl ⟨e1, fun i hi => ?_⟩
        by_cases e : i = k
        · subst e
          cases hs : sel i
          · rfl
          · exact absurd ⟨hs, .inl e1⟩ hc
        · exact h1 i (by omega)
      · refine .inr ⟨m, by omega, e1, h1, fun i hi hs => ?_⟩
        by_cases e : i = k
        · subst e
          rcases Nat.lt_or_ge (fm i).tn (fm m).tn with h4 | h4
          · exact absurd ⟨hs, .inr (by rw [e1, Int.toNat_natCast]; exact h4)⟩ hc
          · exact h4
        · exact h2 i (by omega) hs

/-- No more holes than pigeons are for them. -/
theorem pigeon : ∀ (P F : Nat) (f : Nat → Nat), (∀ x, x < F → f x < P) → (∀ x y, x < F → y < F → f x = f y → x = y) → F ≤ P
  | 0, F, f, h, _ => by
    rcases Nat.eq_zero_or_pos F with e | e
    · omega
    · have := h 0 e; omega
  | P + 1, 0, _, _, _ => Nat.zero_le _
  | P + 1, F + 1, f, h, hi => by
    have := pigeon P F (fun x => if f x = P then f F else f x) (fun x hx => by
      have h1 := h x (by omega)
      have h2 := h F (by omega)
      try dsimp only
      split
      · rename_i e
        have : f F ≠ P := fun e2 => by have := hi x F (by omega) (by omega) (by rw [e, e2]); omega
        omega
      · rename_i e; omega) (fun x y hx hy e => by
      try dsimp only at e
      by_cases a : f x = P <;> by_cases b : f y = P
      · exact hi x y (by omega) (by omega) (by rw [a, b])
      · rw [if_pos a, if_neg b] at e
        have := hi F y (by omega) (by omega) e; omega
      · rw [if_neg a, if_pos b] at e
        have := hi x F (by omega) (by omega) e; omega
      · rw [if_neg a, if_neg b] at e
        exact hi x y (by omega) (by omega) e)
    omega

/-- A frame that is no page's. -/
def freeB (fm : Nat → Fr) (hm : Nat → Int) (f : Nat) : Bool := decide ((fm f).pg = -1) || decide (hm (fm f).pg.toNat ≠ (f : Int))
theorem free_some {fm : Nat → Fr} {hm : Nat → Int} {F P : Nat} (hp : ∀ f, f < F → -1 ≤ (fm f).pg ∧ (fm f).pg < (P : Int)) (hFP : P < F) : ∃ f, f < F ∧ freeB fm hm f = true := by
  rcases Classical.em (∃ f, f < F ∧ freeB fm hm f = true) with h | h
  · exact h
  · have h' : ∀ f, f < F → (fm f).pg ≠ -1 ∧ hm (fm f).pg.toNat = (f : Int) := by
      intro f hf
      have : freeB fm hm f ≠ true := fun e => h ⟨f, hf, e⟩
      simpa [freeB] using this
    have := pigeon P F (fun f => (fm f).pg.toNat) (fun x hx => by have := hp x hx; have := h' x hx; (try dsimp only); omega) (fun x y hx hy e => by
      try dsimp only at e
      have a := (h' x hx).2
      have b := (h' y hy).2
      rw [e, b] at a
      omega)
    omega
theorem firstR_free {fm : Nat → Fr} {hm : Nat → Int} {F P : Nat} (hp : ∀ f, f < F → -1 ≤ (fm f).pg ∧ (fm f).pg < (P : Int)) (hFP : P < F) :
    ∃ m : Nat, m < F ∧ firstR (freeB fm hm) fm F = m ∧ freeB fm hm m = true ∧ ∀ i, i < F → freeB fm hm i = true → (fm m).tn ≤ (fm i).tn := by
  rcases firstR_is (freeB fm hm) fm F with ⟨_, h⟩ | h
  · obtain ⟨f, hf, e⟩ := free_some (hm := hm) hp hFP
    rw [h f hf] at e; cases e
  · exact h

/-- The head of frame f in the words. -/
def frM (ws : List Nat) (f : Nat) : Fr := ⟨(decD (ws.getD (f * 19) 0) : Int) - 1, decD (ws.getD (f * 19 + 1) 0) * 16777216 + decD (ws.getD (f * 19 + 2) 0)⟩
def wokB (ws : List Nat) (a : Nat) : Bool := decH (ws.getD a 0) != 2
def hokB (ws : List Nat) (f : Nat) : Bool := wokB ws (f * 19) && wokB ws (f * 19 + 1) && wokB ws (f * 19 + 2)
/-- The words of a frame's body. -/
def bodyW (ws : List Nat) (f : Nat) : List Nat := (List.range 16).map fun k => ws.getD (f * 19 + 3 + k) 0
theorem bodyW_len (ws : List Nat) (f : Nat) : (bodyW ws f).length = 16 := by simp [bodyW]
theorem bodyW_at (ws : List Nat) (f k : Nat) (h : k < 16) : (bodyW ws f).getD k 0 = ws.getD (f * 19 + 3 + k) 0 := by
  simp [bodyW, List.getD, h]
/-- The bytes that a frame holds. -/
def bytesW (ws : List Nat) (f : Nat) : List UInt8 := unpK (bodyW ws f) 16
/-- The bytes of page j. -/
def pageW (ws : List Nat) (j : Nat) : List UInt8 :=
  if homeR (frM ws) j (ws.length / 19) = -1 then List.replicate 48 0 else bytesW ws (homeR (frM ws) j (ws.length / 19)).toNat
end Go.Proofs.YtiholfpcndjliaaDoor
