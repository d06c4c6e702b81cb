/-
  The reference's states in memory; the walks of its bit, more, put, Read.
-/
import Derived.Test.YtcojoohbhkhlnaaCel
namespace Go.Proofs.Ytcojoohbhkhlnaa
set_option linter.unusedVariables false
set_option linter.unusedSimpArgs false
open Go.RowKit

/-- A slice of words, or of numbers, in a block that is none of X. -/
def WX (w : World) (X : Nat → Prop) (v : Value) (l : List Nat) : Prop :=
  ∃ g c, v = .slice (some ⟨g, 0, none⟩) l.length c ∧ l.length ≤ c ∧ c ≤ maxLen ∧ ¬ X g ∧ g < w.heap.size ∧ ∀ k, k < l.length → w.cell? ⟨g, k, none⟩ = some (.int .u32 ((l.getD k 0 : Nat) : Int))
def IX (w : World) (X : Nat → Prop) (v : Value) (l : List Nat) : Prop :=
  ∃ g c, v = .slice (some ⟨g, 0, none⟩) l.length c ∧ l.length ≤ c ∧ c ≤ maxLen ∧ ¬ X g ∧ g < w.heap.size ∧ ∀ k, k < l.length → w.cell? ⟨g, k, none⟩ = some (.int .i64 ((l.getD k 0 : Nat) : Int))
theorem WX.keep {w w' : World} {X : Nat → Prop} {v : Value} {l : List Nat} (h : WX w X v l) (hs : w.heap.size ≤ w'.heap.size) (hk : ∀ k, k < w.heap.size → ¬ X k → w'.heap[k]? = w.heap[k]?) : WX w' X v l := by
  obtain ⟨g, c, h1, h2, h3, h4, h5, h6⟩ := h
  exact ⟨g, c, h1, h2, h3, h4, Nat.lt_of_lt_of_le h5 hs, fun k hk' => (World.cell?_of_block (w := w) (hk g h5 h4)).trans (h6 k hk')⟩
theorem IX.keep {w w' : World} {X : Nat → Prop} {v : Value} {l : List Nat} (h : IX w X v l) (hs : w.heap.size ≤ w'.heap.size) (hk : ∀ k, k < w.heap.size → ¬ X k → w'.heap[k]? = w.heap[k]?) : IX w' X v l := by
  obtain ⟨g, c, h1, h2, h3, h4, h5, h6⟩ := h
  exact ⟨g, c, h1, h2, h3, h4, Nat.lt_of_lt_of_le h5 hs, fun k hk' => (World.cell?_of_block (w := w) (hk g h5 h4)).trans (h6 k hk')⟩
theorem WX.below {w w' : World} {X : Nat → Prop} {v : Value} {l : List Nat} (h : WX w X v l) (hb : Below w.heap.size w w') : WX w' X v l := h.keep hb.size fun k hk _ => hb.block k hk
theorem IX.below {w w' : World} {X : Nat → Prop} {v : Value} {l : List Nat} (h : IX w X v l) (hb : Below w.heap.size w w') : IX w' X v l := h.keep hb.size fun k hk _ => hb.block k hk
theorem WX.sw {w : World} {X : Nat → Prop} {v : Value} {l : List Nat} (h : WX w X v l) : SW w w.heap.size v l := by
  obtain ⟨g, c, h1, h2, h3, h4, h5, h6⟩ := h
  exact ⟨_, c, h1, h2, h3, fun _ => ⟨g, 0, rfl, h5, fun k hk => by rw [Nat.zero_add]; exact h6 k hk⟩⟩
theorem IX.si {w : World} {X : Nat → Prop} {v : Value} {l : List Nat} (h : IX w X v l) : SI w w.heap.size v l := by
  obtain ⟨g, c, h1, h2, h3, h4, h5, h6⟩ := h
  exact ⟨_, c, h1, h2, h3, fun _ => ⟨g, 0, rfl, h5, fun k hk => by rw [Nat.zero_add]; exact h6 k hk⟩⟩

/-- The pending cut as the reference writes it. -/
def cutI (s : St) : Int := match s.cut with | none => -1 | some k => (k : Int)
/-- The reference's state as seven cells. -/
def rrow (v1 v2 : Value) (s : St) : Array Value := #[v1, v2, .int .i64 (s.en : Int), .int .i64 (s.wr : Int), .int .i64 (s.cu : Int), .bool s.on, .int .i64 (cutI s)]
structure RV (w : World) (X : Nat → Prop) (s : St) (v1 v2 : Value) : Prop where
  ws : WX w X v1 s.ws
  we : IX w X v2 s.wear
theorem RV.below {w w' : World} {X : Nat → Prop} {s : St} {v1 v2 : Value} (h : RV w X s v1 v2) (hb : Below w.heap.size w w') : RV w' X s v1 v2 := ⟨h.ws.below hb, h.we.below hb⟩

/-- 2 to the power of n, as bit reckons it. -/
theorem bit_any (n : Nat) (w : World) (hn : n < 32) : Calls Try.prog 37 #[.int .i64 (n : Int)] w fun e w' => e = .returned (.int .u32 ((2 ^ n : Nat) : Int)) ∧ w' = w := by
  go_enter Try.func37, Try.ntmps37
  go_wp2
  go_loopw [3, 4] (fun x i wr => ∃ k : Nat, k ≤ n ∧ i = .int .i64 k ∧ x = .int .u32 ((2 ^ k : Nat) : Int) ∧ wr = w) (fun _ i _ => n - (intOf i).toNat)
  case atStart => exact ⟨0, by omega, rfl, by simp, by first | rfl | trivial⟩
  case round =>
    obtain ⟨k, hk, rfl, rfl, rfl⟩ := hrel
    by_cases h : k < n
    · have h2 := u32_shl (k + 1) (by omega)
      have HE : Hid (2 ^ (k + 1) = 2 ^ k * 2) := Nat.pow_succ ..
      rw [HE.out] at h2
      generalize 2 ^ k = p at *
      go_wp2
      go_roundw
      case rel => exact ⟨k + 1, by omega, by go_num, by rw [HE.out]; go_num, by first | rfl | trivial⟩
      case measure => simp [intOf]; omega
    · obtain rfl : k = n := by omega
      go_wp2
      go_ret
      exact ⟨rfl, rfl⟩

set_option maxHeartbeats 800000 in
theorem more_any (l : List Nat) (v : Value) (w : World) (a : Nat) (h : SI w w.heap.size v l) (ha : a < l.length) (hl : l.length ≤ 65536) (hx : l.getD a 0 < 1000000) :
    Calls Try.prog 36 #[v, .int .i64 (a : Int)] w fun e w' => ∃ v', e = .returned v' ∧ OI w' w.heap.size v' (l.set a (l.getD a 0 + 1)) ∧ Below w.heap.size w w' := by
  obtain ⟨A1, c1, rfl, h11, h12, h13⟩ := h
  unfold maxLen at h12
  have H13 : Hid (0 < l.length → ∃ b o, A1 = some ⟨b, o, none⟩ ∧ ∀ k, k < l.length → w.cell? ⟨b, o + k, none⟩ = some (.int .i64 ((l.getD k 0 : Nat) : Int))) := fun hp => by
    obtain ⟨b, o, e, hb, hc⟩ := h13 hp
    exact ⟨b, o, e, hc⟩
  clear h13
  go_enter Try.func36, Try.ntmps36
  go_wp2_with (refine wpList_appSI rfl (.tmp 6) (.tmp 7) rfl w w.heap.size (.slice none 0 0) [] l A1 c1 rfl rfl (Below.refl _ _) (OI.nil _ _) H13.out (by simp; omega) (Nat.le_refl _) ?_; intro v' w2 hown hbel)
  have hown : OI w2 w.heap.size v' l := by simpa using hown
  obtain ⟨g, cap, rfl, _, _⟩ := World.ownsRow.form hown (by omega)
  have e2 := hown.cellAt a ha
  have e3 := hown.frozenAt a
  have HO := Lib.hid hown
  have HB := Lib.hid hbel
  have hbg := hown.base_le
  have hai : (a : Int) < (l.length : Int) := by omega
  have hai0 : ¬ (a : Int) < 0 := by omega
  have hai1 : (0 : Int) ≤ (a : Int) := by omega
  clear hown hbel
  obtain ⟨x, hxy⟩ : ∃ x, l.getD a 0 = x := ⟨_, rfl⟩
  rw [hxy] at e2 hx
  have HXY := Lib.hid hxy
  clear hxy
  go_wp2
  go_ret
  exact ⟨_, rfl, by rw [HXY.out]; exact HO.out.stored a (x + 1) _ (by simp), HB.out.setCell (p := ⟨g, a, none⟩) hbg _⟩

set_option maxHeartbeats 800000 in
theorem put0_any (l : List Nat) (v : Value) (w : World) (a x : Nat) (h : SW w w.heap.size v l) (ha : a < l.length) (hl : l.length ≤ 65536) :
    Calls Try.prog 38 #[v, .int .i64 (a : Int), .int .u32 (x : Int)] w fun e w' => ∃ v', e = .returned v' ∧ OW w' w.heap.size v' (l.set a x) ∧ Below w.heap.size w w' := by
  obtain ⟨A1, c1, rfl, h11, h12, h13⟩ := h
  unfold maxLen at h12
  have H13 : Hid (0 < l.length → ∃ b o, A1 = some ⟨b, o, none⟩ ∧ ∀ k, k < l.length → w.cell? ⟨b, o + k, none⟩ = some (.int .u32 ((l.getD k 0 : Nat) : Int))) := fun hp => by
    obtain ⟨b, o, e, hb, hc⟩ := h13 hp
    exact ⟨b, o, e, hc⟩
  clear h13
  go_enter Try.func38, Try.ntmps38
  go_wp2_with (refine wpList_appSW rfl (.tmp 8) (.tmp 9) rfl w w.heap.size (.slice none 0 0) [] l A1 c1 rfl rfl (Below.refl _ _) (OW.nil _ _) H13.out (by simp; omega) (Nat.le_refl _) ?_; intro v' w2 hown hbel)
  have hown : OW w2 w.heap.size v' l := by simpa using hown
  obtain ⟨g, cap, rfl, _, _⟩ := World.ownsRow.form hown (by omega)
  have e2 := hown.cellAt a ha
  have e3 := hown.frozenAt a
  have HO := Lib.hid hown
  have HB := Lib.hid hbel
  have hbg := hown.base_le
  have hai : (a : Int) < (l.length : Int) := by omega
  have hai0 : ¬ (a : Int) < 0 := by omega
  have hai1 : (0 : Int) ≤ (a : Int) := by omega
  clear hown hbel
  obtain ⟨y, hxy⟩ : ∃ x, l.getD a 0 = x := ⟨_, rfl⟩
  rw [hxy] at e2
  have HXY := Lib.hid hxy
  clear hxy
  go_wp2
  go_ret
  exact ⟨_, rfl, HO.out.stored a x _ rfl, HB.out.setCell (p := ⟨g, a, none⟩) hbg _⟩

/-- What the call owns is none of what lay there before. -/
theorem OW.wx {w w' : World} {X : Nat → Prop} {v : Value} {l : List Nat} (h : OW w' w.heap.size v l) (hl : 0 < l.length) (hX : ∀ k, X k → k < w.heap.size) : WX w' X v l := by
  rcases h.2 with ⟨_, h0⟩ | ⟨g, cap, cur, rfl, hb, hg, hn, hm, hs, ht⟩
  · omega
  · refine ⟨g, cap, rfl, hn, hm, fun hx => by have := hX g hx; omega, (Array.getElem?_eq_some_iff.1 hg).1, fun k hk => h.cellAt k hk⟩
theorem OI.ix {w w' : World} {X : Nat → Prop} {v : Value} {l : List Nat} (h : OI w' w.heap.size v l) (hl : 0 < l.length) (hX : ∀ k, X k → k < w.heap.size) : IX w' X v l := by
  rcases h.2 with ⟨_, h0⟩ | ⟨g, cap, cur, rfl, hb, hg, hn, hm, hs, ht⟩
  · omega
  · refine ⟨g, cap, rfl, hn, hm, fun hx => by have := hX g hx; omega, (Array.getElem?_eq_some_iff.1 hg).1, fun k hk => h.cellAt k hk⟩
end Go.Proofs.Ytcojoohbhkhlnaa
