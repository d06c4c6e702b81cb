/-
  What a valid list of interface bytes is, and the groups of an answer to reset: mathematics.
-/
import Derived.Test.YtnbggokmiokhlaaDoorAub
namespace Go.Proofs.YtnbggokmiokhlaaDoor
set_option linter.unusedVariables false
set_option linter.unusedSimpArgs false
open Go.RowKit

theorem lastOf_cons (y x : Ib) (xs : List Ib) (k : Nat) : lastOf y (x :: xs) (k + 1) = lastOf x xs k := by
  unfold lastOf
  rcases k with _ | k <;> simp
theorem lastOf_s (y : Ib) (l : List Ib) (k : Nat) : lastOf y l (k + 1) = l.getD k Ib.zero := by simp [lastOf]
/-- What validity tells of an element x behind y. -/
structure Fine (P : List Int) (x y : Ib) : Prop where
  ib : ibB x = true
  af : aftB x y = true
  fi : fitB x y P = true
theorem chnB_at (P : List Int) : ∀ (l : List Ib) (y : Ib), chnB P y l = true → ∀ k, k < l.length → Fine P (l.getD k Ib.zero) (lastOf y l k)
  | [], _, _, k, hk => absurd hk (by simp)
  | x :: xs, y, h, k, hk => by
    simp only [chnB, Bool.and_eq_true] at h
    rcases k with _ | k
    · exact ⟨h.1.1.1, h.1.1.2, h.1.2⟩
    · rw [lastOf_cons]
      exact chnB_at P xs x h.2 k (by simpa using hk)
theorem ib_facts {x : Ib} (h : ibB x = true) : 1 ≤ x.g ∧ 0 ≤ x.k ∧ x.k ≤ 2 ∧ 0 ≤ x.v ∧ x.v ≤ 255 := by
  simp [ibB] at h; omega
theorem af_facts {x y : Ib} (h : aftB x y = true) : y.g ≤ x.g ∧ (x.g = y.g → y.k < x.k) := by
  simp [aftB] at h; omega
theorem fi_facts {x y : Ib} {P : List Int} (h : fitB x y P = true) :
    (x.g = 1 → x.p = 0) ∧ (x.g = 2 → x.p = P.getD 0 0) ∧ (3 ≤ x.g → x.g = y.g → x.p = y.p) ∧ (3 ≤ x.g → x.g ≠ y.g → hasN P x.p = true) ∧ (3 < x.g → x.g ≠ y.g → x.g = y.g + 1 ∧ y.p ≤ x.p) := by
  unfold fitB at h
  split at h
  · simp at h
    refine ⟨fun _ => h, fun _ => by omega, fun _ => by omega, fun _ => by omega, fun _ => by omega⟩
  split at h
  · simp only [decide_eq_true_eq] at h
    refine ⟨fun _ => by omega, fun _ => h, fun _ => by omega, fun _ => by omega, fun _ => by omega⟩
  split at h
  · simp only [decide_eq_true_eq] at h
    refine ⟨fun _ => by omega, fun _ => by omega, fun _ _ => h, fun _ h' => absurd ‹_› h', fun _ h' => absurd ‹_› h'⟩
  split at h
  · cases h
  · refine ⟨fun _ => by omega, fun _ => by omega, fun _ _ => by omega, fun _ _ => h, fun _ _ => by omega⟩
theorem val_bound {P : List Int} {l : List Ib} (h : chnB P Ib.zero l = true) : ∀ k, k < l.length → (l.getD k Ib.zero).g ≤ 3 + (k : Int)
  | 0, hk => by
    have f := chnB_at P l Ib.zero h 0 hk
    have a := ib_facts f.ib
    have b := fi_facts f.fi
    have c : (lastOf Ib.zero l 0).g = 0 := rfl
    rw [c] at b
    by_cases h3 : 3 < (l.getD 0 Ib.zero).g
    · have := b.2.2.2.2 h3 (by omega); omega
    · omega
  | k + 1, hk => by
    have ih := val_bound h k (by omega)
    have f := chnB_at P l Ib.zero h (k + 1) hk
    rw [lastOf_s] at f
    have b := fi_facts f.fi
    have c := af_facts f.af
    by_cases h3 : 3 < (l.getD (k + 1) Ib.zero).g
    · by_cases h4 : (l.getD (k + 1) Ib.zero).g = (l.getD k Ib.zero).g
      · omega
      · have := b.2.2.2.2 h3 h4; omega
    · omega
theorem val_mono {P : List Int} {l : List Ib} (h : chnB P Ib.zero l = true) (j : Nat) : ∀ k, k < l.length → j ≤ k → (l.getD j Ib.zero).g ≤ (l.getD k Ib.zero).g
  | 0, hk, hj => by obtain rfl : j = 0 := by omega
                    omega
  | k + 1, hk, hj => by
    rcases Nat.lt_or_ge j (k + 1) with h' | h'
    · have ih := val_mono h j k (by omega) (by omega)
      have f := chnB_at P l Ib.zero h (k + 1) hk
      rw [lastOf_s] at f
      have c := af_facts f.af
      omega
    · obtain rfl : j = k + 1 := by omega
      omega
theorem val_prot {P : List Int} {l : List Ib} (h : chnB P Ib.zero l = true) : ∀ k, k < l.length → 3 ≤ (l.getD k Ib.zero).g → hasN P (l.getD k Ib.zero).p = true
  | 0, hk, h3 => by
    have f := chnB_at P l Ib.zero h 0 hk
    have b := fi_facts f.fi
    have c : (lastOf Ib.zero l 0).g = 0 := rfl
    rw [c] at b
    exact b.2.2.2.1 h3 (by omega)
  | k + 1, hk, h3 => by
    have f := chnB_at P l Ib.zero h (k + 1) hk
    rw [lastOf_s] at f
    have b := fi_facts f.fi
    by_cases h4 : (l.getD (k + 1) Ib.zero).g = (l.getD k Ib.zero).g
    · have := val_prot h k (by omega) (by omega)
      rw [b.2.2.1 h3 h4]; exact this
    · exact b.2.2.2.1 h3 h4
theorem off_has {P : List Int} (h : offB P = true) {p : Int} (hp : hasN P p = true) : p = 0 ∨ p = 1 := by
  match P, h with
  | [x], h => simp [offB] at h; simp [hasN] at hp; subst hp; exact h
  | [x, y], h => simp [offB] at h; simp [hasN] at hp; obtain ⟨rfl, rfl⟩ := h; exact hp
theorem off_first {P : List Int} (h : offB P = true) : P.getD 0 0 = 0 ∨ P.getD 0 0 = 1 := by
  match P, h with
  | [x], h => simp [offB] at h; simpa using h
  | [x, y], h => simp [offB] at h; obtain ⟨rfl, rfl⟩ := h; exact .inl rfl
theorem off_pair {P : List Int} (h : offB P = true) (h2 : P.length = 2) : P = [0, 1] := by
  match P, h with
  | [x], h => simp at h2
  | [x, y], h => simp [offB] at h; obtain ⟨rfl, rfl⟩ := h; rfl

/-- What validity of an answer tells. -/
structure Valid (a : At) : Prop where
  off : offB a.prs = true
  his : a.his.length ≤ 15
  chn : chnB a.prs Ib.zero a.ibs = true
theorem valid_of {a : At} (h : valB a = true) : Valid a := by
  simp only [valB, Bool.and_eq_true, decide_eq_true_eq] at h
  exact ⟨h.1.1, h.1.2, h.2⟩
theorem Valid.pos {a : At} (h : Valid a) : 0 < a.prs.length := offB_len h.off
theorem cnt_facts {a : At} (h : Valid a) : 1 ≤ cntV a ∧ cntV a ≤ 4 + (a.ibs.length : Int) ∧ (a.prs.getD 0 0 = 1 → 2 ≤ cntV a) ∧ ∀ k, k < a.ibs.length → (a.ibs.getD k Ib.zero).g ≤ cntV a := by
  have hl : 0 < a.ibs.length → (a.ibs.getD (a.ibs.length - 1) Ib.zero).g ≤ 3 + ((a.ibs.length - 1 : Nat) : Int) := fun hp => val_bound h.chn _ (by omega)
  have hm : ∀ k, k < a.ibs.length → (a.ibs.getD k Ib.zero).g ≤ (a.ibs.getD (a.ibs.length - 1) Ib.zero).g := fun k hk => val_mono h.chn k _ (by omega) (by omega)
  have c0 : 1 ≤ cnt0 a ∧ cnt0 a ≤ 2 ∧ (a.prs.getD 0 0 = 1 → cnt0 a = 2) := by
    unfold cnt0; split
    · exact ⟨by omega, by omega, fun _ => rfl⟩
    · exact ⟨by omega, by omega, fun h => absurd h ‹_›⟩
  have c1 : cnt0 a ≤ cnt1 a ∧ cnt1 a ≤ 3 + (a.ibs.length : Int) ∧ ∀ k, k < a.ibs.length → (a.ibs.getD k Ib.zero).g ≤ cnt1 a := by
    unfold cnt1; split
    · have := hl ‹_›
      exact ⟨by omega, by omega, fun k hk => by have := hm k hk; omega⟩
    · exact ⟨by omega, by omega, fun k hk => by omega⟩
  unfold cntV; split
  · exact ⟨by omega, by omega, fun h => by have := c0.2.2 h; omega, fun k hk => by have := c1.2.2 k hk; omega⟩
  · exact ⟨by omega, by omega, fun h => by have := c0.2.2 h; omega, fun k hk => c1.2.2 k hk⟩

/-- A group: its low bits, its presence, its values. -/
structure Gr where
  lo : UInt8
  pr : UInt8
  vs : List UInt8
def pb (p : Int) : UInt8 := UInt8.ofNat p.toNat
theorem pb_nat {p : Int} (h : 0 ≤ p) (h' : p ≤ 255) : ((pb p).toNat : Int) = p := by
  simp [pb]; omega
def bitK (k : Int) : UInt8 := if k = 0 then 16 else if k = 1 then 32 else 64
def gs0 (a : At) (i : Nat) : Gr := ⟨if i = 0 then UInt8.ofNat a.his.length else if i = 1 then pb (a.prs.getD 0 0) else 1, 0, []⟩
def stp (s : Nat → Gr) (x : Ib) (i : Nat) : Gr := if (i : Int) + 1 = x.g then ⟨if 3 ≤ x.g then pb x.p else (s i).lo, (s i).pr ||| bitK x.k, (s i).vs ++ [pb x.v]⟩ else s i
def grs (a : At) (k : Nat) : Nat → Gr := (a.ibs.take k).foldl stp (gs0 a)
theorem grs_zero (a : At) : grs a 0 = gs0 a := rfl
theorem grs_succ (a : At) (k : Nat) (hk : k < a.ibs.length) : grs a (k + 1) = stp (grs a k) (a.ibs.getD k Ib.zero) := by
  unfold grs
  rw [List.take_succ_eq_append_getElem hk, List.foldl_append, gD_ib _ _ hk]
  rfl
theorem grs_late {a : At} (h : Valid a) (i : Nat) : ∀ k, k ≤ a.ibs.length → (lastOf Ib.zero a.ibs k).g < (i : Int) + 1 → grs a k i = gs0 a i
  | 0, _, _ => rfl
  | k + 1, hk, hi => by
    rw [lastOf_s] at hi
    rw [grs_succ a k (by omega), stp, if_neg (by omega)]
    have f := chnB_at a.prs a.ibs Ib.zero h.chn k (by omega)
    have c := af_facts f.af
    exact grs_late h i k (by omega) (by omega)

def hdB (s : Nat → Gr) (n i : Nat) : UInt8 := if i + 1 < n then (s i).lo ||| (s i).pr ||| 128 else (s i).lo ||| (s i).pr
def bodM (s : Nat → Gr) (n : Nat) : Nat → List UInt8
  | 0 => []
  | j + 1 => bodM s n j ++ (hdB s n j :: (s j).vs)
def tot (s : Nat → Gr) : Nat → Nat
  | 0 => 0
  | n + 1 => tot s n + (s n).vs.length
theorem bodM_len (s : Nat → Gr) (n : Nat) : ∀ j, (bodM s n j).length = j + tot s j
  | 0 => rfl
  | j + 1 => by simp [bodM, tot, bodM_len s n j]; omega
theorem tot_stp (s : Nat → Gr) (x : Ib) : ∀ n : Nat, tot (stp s x) n = tot s n + if 1 ≤ x.g ∧ x.g ≤ (n : Int) then 1 else 0
  | 0 => by rw [if_neg (by omega)]; rfl
  | n + 1 => by
    simp only [tot]
    rw [tot_stp s x n]
    by_cases h : (n : Int) + 1 = x.g
    · have e1 : (stp s x n).vs.length = (s n).vs.length + 1 := by rw [stp, if_pos h]; simp
      rw [e1, if_neg (by omega), if_pos (by omega)]; omega
    · have e1 : (stp s x n).vs.length = (s n).vs.length := by rw [stp, if_neg h]
      rw [e1]
      by_cases h2 : 1 ≤ x.g ∧ x.g ≤ (n : Int)
      · rw [if_pos h2, if_pos (by omega)]; omega
      · rw [if_neg h2, if_neg (by omega)]; omega
theorem tot_zero (a : At) : ∀ n, tot (gs0 a) n = 0
  | 0 => rfl
  | n + 1 => by simp [tot, tot_zero a n, gs0]
theorem tot_grs {a : At} (h : Valid a) (n : Nat) (hn : cntV a ≤ (n : Int)) : ∀ k, k ≤ a.ibs.length → tot (grs a k) n = k
  | 0, _ => tot_zero a n
  | k + 1, hk => by
    have f := chnB_at a.prs a.ibs Ib.zero h.chn k (by omega)
    have c := ib_facts f.ib
    have d := (cnt_facts h).2.2.2 k (by omega)
    rw [grs_succ a k (by omega), tot_stp, tot_grs h n hn k (by omega), if_pos (by omega)]

def cntN (a : At) : Nat := (cntV a).toNat
def bodV (a : At) : List UInt8 := bodM (grs a a.ibs.length) (cntN a) (cntN a) ++ a.his
def encM (a : At) : List UInt8 := (if a.inv then 63 else 59) :: (if hasN a.prs 1 then bodV a ++ sumL 0 (bodV a) else bodV a)
theorem bodV_len {a : At} (h : Valid a) : (bodV a).length = cntN a + a.ibs.length + a.his.length := by
  have c := cnt_facts h
  have hn : cntV a ≤ ((cntN a : Nat) : Int) := by unfold cntN; omega
  rw [bodV, List.length_append, bodM_len, tot_grs h _ hn _ (Nat.le_refl _)]
end Go.Proofs.YtnbggokmiokhlaaDoor
