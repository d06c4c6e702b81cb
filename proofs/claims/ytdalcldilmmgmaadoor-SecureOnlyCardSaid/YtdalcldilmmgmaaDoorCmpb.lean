
/-
  The walks of Same, Compare and Begins.
-/
import Derived.Test.YtdalcldilmmgmaaDoorCmp
import Derived.Test.YtdalcldilmmgmaaDoorOwn
import Derived.Test.YtdalcldilmmgmaaDoorSh
import Derived.Lib.Bytealg
namespace Go.Proofs.YtdalcldilmmgmaaDoor
set_option linter.unusedVariables false
set_option linter.unusedSimpArgs false
open Go.RowKit

theorem cmpL_lib (a b : List UInt8) : Lib.compareBytes a b = cmpL a b := by
  induction a generalizing b with
  | nil => cases b <;> rfl
  | cons x xs ih => cases b with
    | nil => rfl
    | cons y ys =>
      simp only [Lib.compareBytes, cmpL, ih, UInt8.lt_iff_toNat_lt]

/-- The reference's Same, at two slices of the same bytes. -/
theorem same_yes (a : List UInt8) (v u : Value) (w : World) (B : Nat) (ha : SL w B v a) (hb : SL w B u a) :
    Calls Tryd.prog 19 #[v, u] w fun e w' => e = .returned (.bool true) ∧ ∃ n, w' = w.drewN n := by
  have hc := rcmp_any a a v u w B ha hb
  rw [cmpL_self] at hc
  have HC := Lib.hid hc
  clear hc
  obtain ⟨A1, c1, rfl, h11, h12, h13⟩ := ha
  obtain ⟨A2, c2, rfl, h21, h22, h23⟩ := hb
  go_enter Tryd.func19, Tryd.ntmps19
  go_wp2_with (go_at_call 35; refine HC.out.mono ?_; rintro e w' ⟨rfl, n, rfl⟩)
  go_ret
  exact ⟨rfl, n, rfl⟩

theorem map_nat_getD (l : List UInt8) (k : Nat) : (l.map fun x => (x.toNat : Int)).getD k 0 = ((l.getD k 0).toNat : Int) := by
  by_cases h : k < l.length
  · simp [List.getD, List.getElem?_eq_getElem h]
  · simp [List.getD, List.getElem?_eq_none (Nat.le_of_not_lt h)]
theorem bytesOf_map (l : List UInt8) : Lib.bytesOf (l.map fun x => (x.toNat : Int)) = l := by
  unfold Lib.bytesOf
  rw [List.map_map]
  conv => rhs; rw [← List.map_id l]
  apply List.map_congr_left
  intro x _
  simp

theorem SL.bytesIn {w : World} {B : Nat} {A : Option Addr} {l : List UInt8} (h : Rd w B A l) : Lib.BytesIn w A l.length (l.map fun x => (x.toNat : Int)) := fun hn => by
  obtain ⟨b, o, hA, _, hc⟩ := h hn
  exact ⟨b, o, hA, fun i hi => by rw [hc i hi, map_nat_getD]⟩

theorem strOfNums_map (l : List UInt8) : strOfNums (l.map fun x => (x.toNat : Int)) = ⟨l.toArray⟩ := by
  apply ByteArray.ext
  apply Array.ext'
  rw [strOfNums_data, List.map_map]
  conv => rhs; rw [← List.map_id l]
  apply List.map_congr_left
  intro x _
  simp
theorem SL.convert {w : World} {B : Nat} {v : Value} {l : List UInt8} (h : SL w B v l) : Sem.run Tryd.prog (convert 22 9 v) w = .ok (.string ⟨l.toArray⟩) w := by
  obtain ⟨A, c, rfl, _, _, h3⟩ := h
  rw [(SL.bytesIn h3).convert (P := Tryd.prog) (by simp) c 22 5 9 Tryd.underlying22 Tryd.underlying5 Tryd.underlying9, strOfNums_map]

theorem Rd.take {w : World} {B : Nat} {A : Option Addr} {l : List UInt8} (h : Rd w B A l) (m : Nat) : Rd w B A (l.take m) := fun hn => by
  rw [List.length_take] at hn
  obtain ⟨b, o, hA, hb, hc⟩ := h (by omega)
  refine ⟨b, o, hA, hb, fun k hk => ?_⟩
  rw [List.length_take] at hk
  rw [hc k (by omega)]
  simp [List.getD, show k < m by omega]

theorem SL.take {w : World} {B c m : Nat} {A : Option Addr} {l : List UInt8} (h : SL w B (.slice A l.length c) l) (hm : m ≤ l.length) : SL w B (.slice A m c) (l.take m) := by
  obtain ⟨A', c', e, h1, h2, h3⟩ := h
  simp only [Value.slice.injEq, true_and] at e
  obtain ⟨rfl, rfl⟩ := e
  exact ⟨A, c, by rw [List.length_take, Nat.min_eq_left hm], by rw [List.length_take]; omega, h2, h3.take m⟩

theorem cmp_take_prefix (a p : List UInt8) (h : p.length ≤ a.length) : (cmpL (a.take p.length) p == 0) = p.isPrefixOf a := by
  rw [Bool.eq_iff_iff, beq_iff_eq, List.isPrefixOf_iff_prefix]
  constructor
  · intro e
    have := cmpL_eq_zero e
    exact ⟨a.drop p.length, by conv => rhs; rw [← List.take_append_drop p.length a, this]⟩
  · rintro ⟨t, rfl⟩
    rw [List.take_left]
    exact cmpL_self p

end Go.Proofs.YtdalcldilmmgmaaDoor
