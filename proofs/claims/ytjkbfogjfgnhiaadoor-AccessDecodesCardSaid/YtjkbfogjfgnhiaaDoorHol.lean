/-
  The walks of holds and its closures, IndexFunc and ContainsFunc with them, Holds.
-/
import Derived.Test.YtjkbfogjfgnhiaaDoorVal
namespace Go.Proofs.YtjkbfogjfgnhiaaDoor
set_option linter.unusedVariables false
set_option linter.unusedSimpArgs false
open Go.RowKit

def Sc.val (s : Sc) : Value := .agg #[.int .i64 s.pins, .int .i64 s.keys, .int .i64 s.state, .int .i64 s.level]
def Sc.row (s : Sc) : Obj := .cells #[.int .i64 s.pins, .int .i64 s.keys, .int .i64 s.state, .int .i64 s.level] 31 (0, 0)
def HoldC (c : Cn) : Prop := ∀ (s : Sc) (v : Value) (w : World), c.ok = true → KL w w.heap.size v c.kids →
  Calls Tryd.prog 43 #[.agg #[.int .i64 c.op, .int .i64 c.n, v], .agg #[.int .i64 s.pins, .int .i64 s.keys, .int .i64 s.state, .int .i64 s.level]] w fun e w' => e = .returned (.bool (c.sat s)) ∧ Below w.heap.size w w'

/-- The place of the first element that f takes, or -1. -/
def idxF (f : Cn → Bool) (l : List Cn) : Int := if l.any f then (l.findIdx f : Int) else -1
theorem gD_cn (l : List Cn) (k : Nat) (h : k < l.length) : l.getD k Cn.zero = l[k] := by simp [List.getD, List.getElem?_eq_getElem h]
theorem idxF_at (f : Cn → Bool) (l : List Cn) (k : Nat) (hk : k < l.length) (h : f l[k] = true) (hb : ∀ j, j < k → f (l.getD j Cn.zero) = false) : idxF f l = (k : Int) := by
  have hm : l.any f = true := List.any_eq_true.2 ⟨l[k], List.getElem_mem hk, h⟩
  rw [idxF, if_pos hm]
  have h1 : l.findIdx f ≤ k := by
    rcases Nat.lt_or_ge k (l.findIdx f) with h' | h'
    · exact absurd h (by simpa using List.not_of_lt_findIdx h')
    · exact h'
  have h2 : ¬ l.findIdx f < k := fun h' => by
    have hlt : l.findIdx f < l.length := by omega
    have := hb _ h'
    rw [gD_cn l _ hlt] at this
    have e := List.findIdx_getElem (p := f) (w := hlt)
    rw [this] at e
    cases e
  congr 1
  omega
theorem idxF_no (f : Cn → Bool) (l : List Cn) (h : ∀ j, j < l.length → f (l.getD j Cn.zero) = false) : idxF f l = -1 := by
  rw [idxF, if_neg]
  intro hm
  obtain ⟨x, hx, e⟩ := List.any_eq_true.1 hm
  obtain ⟨j, hj, rfl⟩ := List.getElem_of_mem hx
  have := h j hj
  rw [gD_cn l j hj, e] at this
  cases this
theorem no_snoc {f : Cn → Bool} {l : List Cn} {k : Nat} (hl : k < l.length) (h : ∀ j, j < k → f (l.getD j Cn.zero) = false) (hk : f l[k] = false) : ∀ j, j < k + 1 → f (l.getD j Cn.zero) = false := by
  intro j hj
  rcases Nat.lt_or_ge j k with h' | h'
  · exact h j h'
  · obtain rfl : j = k := by omega
    rw [gD_cn l j hl]
    exact hk
theorem idxF_any (f : Cn → Bool) (l : List Cn) : decide (0 ≤ idxF f l) = l.any f := by
  unfold idxF
  by_cases h : l.any f = true
  · rw [if_pos h, h]; exact decide_eq_true (by omega)
  · rw [if_neg h]; rw [Bool.not_eq_true] at h; rw [h]; rfl

set_option maxRecDepth 100000 in
theorem pkh_any (t : Cn) (hC : HoldC t) (s : Sc) (sb : Nat) (v : Value) (w : World) (hok : t.ok = true) (hk : KL w w.heap.size v t.kids) (hs : w.heap[sb]? = some s.row) :
    Calls Tryd.prog 68 #[.agg #[.int .i64 t.op, .int .i64 t.n, v], .pointer (some ⟨sb, 0, none⟩)] w fun e w' => e = .returned (.bool (t.sat s)) ∧ Below w.heap.size w w' := by
  obtain ⟨A, cap, rfl, h1, h2, h3⟩ := id hk
  have hsb : sb < w.heap.size := (Array.getElem?_eq_some_iff.1 hs).1
  have ha := alloc_below w (Obj.cells #[Value.int IntKind.i64 t.op, Value.int IntKind.i64 t.n, Value.slice A t.kids.length cap] 24)
  have hs1 := (ha.block sb hsb).trans hs
  have g0 := cell_of_row _ _ 0 _ _ _ hs1
  have g1 := cell_of_row _ _ 1 _ _ _ hs1
  have g2 := cell_of_row _ _ 2 _ _ _ hs1
  have g3 := cell_of_row _ _ 3 _ _ _ hs1
  have HC := Lib.hid (hC s _ _ hok (hk.on ha))
  have HA := Lib.hid ha
  clear ha hs1 hs hk h3
  generalize t.sat s = X at *
  go_enter Tryd.func68, Tryd.ntmps68
  go_wp2_with fail
  refine HC.out.mono ?_
  rintro e w1 ⟨rfl, hb1⟩
  go_wp2_with fail
  go_ret
  exact ⟨rfl, after_alloc hb1⟩

set_option maxRecDepth 100000 in
set_option maxHeartbeats 1600000 in
theorem pixh_any (l : List Cn) (s : Sc) (sb : Nat) (v : Value) (w : World) (hC : ∀ (k : Nat) (h : k < l.length), HoldC l[k]) (hok : okK l = true) (h : KL w w.heap.size v l) (hs : w.heap[sb]? = some s.row) :
    Calls Tryd.prog 89 #[v, .func (.func 68) #[] #[.pointer (some ⟨sb, 0, none⟩)]] w fun e w' => e = .returned (.int .i64 (idxF (fun t => t.sat s) l)) ∧ Below w.heap.size w w' := by
  obtain ⟨A, c, rfl, h1, h2, h3⟩ := h
  unfold maxLen at h2
  have HCC := Lib.hid hC
  have HOK := Lib.hid hok
  have HS := Lib.hid hs
  clear hC hok hs
  go_enter Tryd.func89, Tryd.ntmps89
  go_wp2
  go_loopw [8] (fun i wr => ∃ k : Nat, k ≤ l.length ∧ i = .int .i64 k ∧ Hid (∀ j, j < k → (fun t => t.sat s) (l.getD j Cn.zero) = false) ∧ Hid (Below w.heap.size w wr)) (fun i _ => l.length - (intOf i).toNat)
  case atStart => exact ⟨0, Nat.zero_le _, rfl, fun j hj => absurd hj (by omega), Below.refl _ _⟩
  case round =>
    obtain ⟨k, hk, rfl, HE, HB⟩ := hrel
    by_cases hlt : k < l.length
    · obtain ⟨b, o, rfl, hb, hts⟩ := h3.out (by omega)
      have hta := CnsAt.get hts hlt
      have hta' := CnAt.keep HB.out.size (fun p hp => HB.out.cell hp) _ b _ hb hta
      have HAT := Lib.hid (idxF_at (fun t => t.sat s) l k hlt)
      have HSN := Lib.hid (@no_snoc (fun t => t.sat s) l k hlt HE.out)
      have hcc := HCC.out k hlt
      have hokk := okK_get l k hlt HOK.out
      generalize l[k] = t at *
      obtain ⟨A2, c2, g0, g1, g2, hu⟩ := hta'.cells
      have HQ := Lib.hid (pkh_any t hcc s sb _ wr hokk hu ((HB.out.block sb (Array.getElem?_eq_some_iff.1 HS.out).1).trans HS.out))
      clear hts hta hta' hu hcc hokk
      generalize (t.sat s) = X at HAT HSN HQ
      go_wp2_with fail
      refine HQ.out.mono ?_
      rintro e w2 ⟨rfl, hb2⟩
      have HB2 := Lib.hid (HB.out.trans (hb2.mono HB.out.size))
      clear hb2
      cases X with
      | true =>
        go_wp2_with fail
        go_ret
        exact ⟨ret_int (HAT.out (by first | exact trivial | rfl) HE.out).symm, HB2.out⟩
      | false =>
        go_wp2_with fail
        go_roundw
        case rel => exact ⟨k + 1, by omega, by go_num, HSN.out (by first | exact trivial | rfl), HB2⟩
        case measure => simp [intOf]; omega
    · have hkk : k = l.length := by omega
      subst hkk
      go_wp2
      go_ret
      exact ⟨ret_int (idxF_no (fun t => t.sat s) l HE.out).symm, HB.out⟩

set_option maxRecDepth 100000 in
theorem pcoh_any (l : List Cn) (s : Sc) (sb : Nat) (v : Value) (w : World) (hC : ∀ (k : Nat) (h : k < l.length), HoldC l[k]) (hok : okK l = true) (h : KL w w.heap.size v l) (hs : w.heap[sb]? = some s.row) :
    Calls Tryd.prog 70 #[v, .func (.func 68) #[] #[.pointer (some ⟨sb, 0, none⟩)]] w fun e w' => e = .returned (.bool (l.any fun t => t.sat s)) ∧ Below w.heap.size w w' := by
  have HX := Lib.hid (pixh_any l s sb v w hC hok h hs)
  have HE := Lib.hid (idxF_any (fun t => t.sat s) l)
  obtain ⟨A, c, rfl, h1, h2, h3⟩ := h
  clear hC hok hs
  generalize idxF (fun t => t.sat s) l = i at *
  go_enter Tryd.func70, Tryd.ntmps70
  go_wp2_with fail
  refine HX.out.mono ?_
  rintro e w1 ⟨rfl, hb1⟩
  go_wp2_with fail
  go_ret
  exact ⟨ret_bool HE.out, hb1⟩

set_option maxRecDepth 100000 in
theorem pkf_any (t : Cn) (hC : HoldC t) (s : Sc) (sb : Nat) (v : Value) (w : World) (hok : t.ok = true) (hk : KL w w.heap.size v t.kids) (hs : w.heap[sb]? = some s.row) :
    Calls Tryd.prog 69 #[.agg #[.int .i64 t.op, .int .i64 t.n, v], .pointer (some ⟨sb, 0, none⟩)] w fun e w' => e = .returned (.bool (!t.sat s)) ∧ Below w.heap.size w w' := by
  obtain ⟨A, cap, rfl, h1, h2, h3⟩ := id hk
  have hsb : sb < w.heap.size := (Array.getElem?_eq_some_iff.1 hs).1
  have ha := alloc_below w (Obj.cells #[Value.int IntKind.i64 t.op, Value.int IntKind.i64 t.n, Value.slice A t.kids.length cap] 24)
  have hs1 := (ha.block sb hsb).trans hs
  have g0 := cell_of_row _ _ 0 _ _ _ hs1
  have g1 := cell_of_row _ _ 1 _ _ _ hs1
  have g2 := cell_of_row _ _ 2 _ _ _ hs1
  have g3 := cell_of_row _ _ 3 _ _ _ hs1
  have HC := Lib.hid (hC s _ _ hok (hk.on ha))
  have HA := Lib.hid ha
  clear ha hs1 hs hk h3
  generalize t.sat s = X at *
  go_enter Tryd.func69, Tryd.ntmps69
  go_wp2_with fail
  refine HC.out.mono ?_
  rintro e w1 ⟨rfl, hb1⟩
  go_wp2_with fail
  go_ret
  exact ⟨rfl, after_alloc hb1⟩

set_option maxRecDepth 100000 in
set_option maxHeartbeats 1600000 in
theorem pixf_any (l : List Cn) (s : Sc) (sb : Nat) (v : Value) (w : World) (hC : ∀ (k : Nat) (h : k < l.length), HoldC l[k]) (hok : okK l = true) (h : KL w w.heap.size v l) (hs : w.heap[sb]? = some s.row) :
    Calls Tryd.prog 89 #[v, .func (.func 69) #[] #[.pointer (some ⟨sb, 0, none⟩)]] w fun e w' => e = .returned (.int .i64 (idxF (fun t => !t.sat s) l)) ∧ Below w.heap.size w w' := by
  obtain ⟨A, c, rfl, h1, h2, h3⟩ := h
  unfold maxLen at h2
  have HCC := Lib.hid hC
  have HOK := Lib.hid hok
  have HS := Lib.hid hs
  clear hC hok hs
  go_enter Tryd.func89, Tryd.ntmps89
  go_wp2
  go_loopw [8] (fun i wr => ∃ k : Nat, k ≤ l.length ∧ i = .int .i64 k ∧ Hid (∀ j, j < k → (fun t => !t.sat s) (l.getD j Cn.zero) = false) ∧ Hid (Below w.heap.size w wr)) (fun i _ => l.length - (intOf i).toNat)
  case atStart => exact ⟨0, Nat.zero_le _, rfl, fun j hj => absurd hj (by omega), Below.refl _ _⟩
  case round =>
    obtain ⟨k, hk, rfl, HE, HB⟩ := hrel
    by_cases hlt : k < l.length
    · obtain ⟨b, o, rfl, hb, hts⟩ := h3.out (by omega)
      have hta := CnsAt.get hts hlt
      have hta' := CnAt.keep HB.out.size (fun p hp => HB.out.cell hp) _ b _ hb hta
      have HAT := Lib.hid (idxF_at (fun t => !t.sat s) l k hlt)
      have HSN := Lib.hid (@no_snoc (fun t => !t.sat s) l k hlt HE.out)
      have hcc := HCC.out k hlt
      have hokk := okK_get l k hlt HOK.out
      generalize l[k] = t at *
      obtain ⟨A2, c2, g0, g1, g2, hu⟩ := hta'.cells
      have HQ := Lib.hid (pkf_any t hcc s sb _ wr hokk hu ((HB.out.block sb (Array.getElem?_eq_some_iff.1 HS.out).1).trans HS.out))
      clear hts hta hta' hu hcc hokk
      generalize (!t.sat s) = X at HAT HSN HQ
      go_wp2_with fail
      refine HQ.out.mono ?_
      rintro e w2 ⟨rfl, hb2⟩
      have HB2 := Lib.hid (HB.out.trans (hb2.mono HB.out.size))
      clear hb2
      cases X with
      | true =>
        go_wp2_with fail
        go_ret
        exact ⟨ret_int (HAT.out (by first | exact trivial | rfl) HE.out).symm, HB2.out⟩
      | false =>
        go_wp2_with fail
        go_roundw
        case rel => exact ⟨k + 1, by omega, by go_num, HSN.out (by first | exact trivial | rfl), HB2⟩
        case measure => simp [intOf]; omega
    · have hkk : k = l.length := by omega
      subst hkk
      go_wp2
      go_ret
      exact ⟨ret_int (idxF_no (fun t => !t.sat s) l HE.out).symm, HB.out⟩

set_option maxRecDepth 100000 in
theorem pcof_any (l : List Cn) (s : Sc) (sb : Nat) (v : Value) (w : World) (hC : ∀ (k : Nat) (h : k < l.length), HoldC l[k]) (hok : okK l = true) (h : KL w w.heap.size v l) (hs : w.heap[sb]? = some s.row) :
    Calls Tryd.prog 70 #[v, .func (.func 69) #[] #[.pointer (some ⟨sb, 0, none⟩)]] w fun e w' => e = .returned (.bool (l.any fun t => !t.sat s)) ∧ Below w.heap.size w w' := by
  have HX := Lib.hid (pixf_any l s sb v w hC hok h hs)
  have HE := Lib.hid (idxF_any (fun t => !t.sat s) l)
  obtain ⟨A, c, rfl, h1, h2, h3⟩ := h
  clear hC hok hs
  generalize idxF (fun t => !t.sat s) l = i at *
  go_enter Tryd.func70, Tryd.ntmps70
  go_wp2_with fail
  refine HX.out.mono ?_
  rintro e w1 ⟨rfl, hb1⟩
  go_wp2_with fail
  go_ret
  exact ⟨ret_bool HE.out, hb1⟩

end Go.Proofs.YtjkbfogjfgnhiaaDoor
