/-
  The walks of Same, Compare and Begins.
-/
import Derived.Test.YtahnmnbjgbfeaaaCmp
import Derived.Test.YtahnmnbjgbfeaaaOwn
import Derived.Test.YtahnmnbjgbfeaaaSh
import Derived.Lib.Bytealg
namespace Go.Proofs.Ytahnmnbjgbfeaaa
set_option linter.unusedVariables false
set_option linter.unusedSimpArgs false
open Go.RowKit

theorem cmpL_lib (a b : List UInt8) : Lib.compareBytes a b = cmpL a b := by
  induction a generalizing b with
  | nil => cases b <;> rfl
  | cons x xs ih => cases b with
    | nil => rfl
    | cons y ys =>
      simp only [Lib.compareBytes, cmpL, ih, UInt8.lt_iff_toNat_lt]

/-- The reference's Same, at two slices of the same bytes. -/
theorem same_yes (a : List UInt8) (v u : Value) (w : World) (B : Nat) (ha : SL w B v a) (hb : SL w B u a) :
    Calls Try.prog 24 #[v, u] w fun e w' => e = .returned (.bool true) ∧ ∃ n, w' = w.drewN n := by
  have hc := rcmp_any a a v u w B ha hb
  rw [cmpL_self] at hc
  have HC := Lib.hid hc
  clear hc
  obtain ⟨A1, c1, rfl, h11, h12, h13⟩ := ha
  obtain ⟨A2, c2, rfl, h21, h22, h23⟩ := hb
  go_enter Try.func24, Try.ntmps24
  go_wp2_with (go_at_call 26; refine HC.out.mono ?_; rintro e w' ⟨rfl, n, rfl⟩)
  go_ret
  exact ⟨rfl, n, rfl⟩

set_option maxRecDepth 100000 in
theorem bcmp_any (a b : List UInt8) (v u : Value) (w : World) (B : Nat) (ha : SL w B v a) (hb : SL w B u b) :
    Calls Try.prog 64 #[v, u] w fun e w' => e = .returned (.int .i64 (cmpL a b)) ∧ w = w' := by
  have hx : (Extern.BytealgCompare.compare #[v, u]).run Try.prog w = .ok (.int .i64 (cmpL a b)) w := by
    have h1 := ha.bytesOf
    have h2 := hb.bytesOf
    have h3 := Lib.run_compareString (P := Try.prog) ⟨a.toArray⟩ ⟨b.toArray⟩ w
    have e0 : (ByteArray.mk a.toArray).data.toList = a := rfl
    have e1 : (ByteArray.mk b.toArray).data.toList = b := rfl
    rw [e0, e1, cmpL_lib] at h3
    rw [← h3]
    show Sem.run Try.prog (do pure (goInt (Extern.BytealgCompare.cmp (← Extern.Bytes.bytesOf v) (← Extern.Bytes.bytesOf u)))) w =
      Sem.run Try.prog (do pure (goInt (Extern.BytealgCompare.cmp (← Extern.Bytes.bytesOf (.string ⟨a.toArray⟩)) (← Extern.Bytes.bytesOf (.string ⟨b.toArray⟩))))) w
    simp only [Sem.run_bind, h1, h2, Result.andThen]
    rfl
  have HX := Lib.hid hx
  clear hx ha hb
  go_enter Try.func64, Try.ntmps64
  go_wp2
  rw [run_callFunc_extern Try.func85 (by kernel_rfl) (by kernel_rfl) (by kernel_rfl) (e := Extern.BytealgCompare.compare) (by kernel_rfl), HX.out]
  simp only [Result.andThen]
  rw [Oper.upon_value]
  go_wp2
  go_ret
  exact ⟨rfl, rfl⟩

theorem pcmp_any (a b : List UInt8) (v u : Value) (w : World) (B : Nat) (ha : SL w B v a) (hb : SL w B u b) :
    Calls Try.prog 25 #[v, u] w fun e w' => e = .returned (.int .i64 (cmpL a b)) ∧ w = w' := by
  have hc := Lib.hid (bcmp_any a b v u w B ha hb)
  go_enter Try.func25, Try.ntmps25
  go_wp2_with (go_at_call 64; refine hc.out.mono ?_; rintro e w' ⟨rfl, rfl⟩)
  go_ret
  exact ⟨rfl, rfl⟩

theorem map_nat_getD (l : List UInt8) (k : Nat) : (l.map fun x => (x.toNat : Int)).getD k 0 = ((l.getD k 0).toNat : Int) := by
  by_cases h : k < l.length
  · simp [List.getD, List.getElem?_eq_getElem h]
  · simp [List.getD, List.getElem?_eq_none (Nat.le_of_not_lt h)]
theorem bytesOf_map (l : List UInt8) : Lib.bytesOf (l.map fun x => (x.toNat : Int)) = l := by
  unfold Lib.bytesOf
  rw [List.map_map]
  conv => rhs; rw [← List.map_id l]
  apply List.map_congr_left
  intro x _
  simp

theorem SL.bytesIn {w : World} {B : Nat} {A : Option Addr} {l : List UInt8} (h : Rd w B A l) : Lib.BytesIn w A l.length (l.map fun x => (x.toNat : Int)) := fun hn => by
  obtain ⟨b, o, hA, _, hc⟩ := h hn
  exact ⟨b, o, hA, fun i hi => by rw [hc i hi, map_nat_getD]⟩

theorem strOfNums_map (l : List UInt8) : strOfNums (l.map fun x => (x.toNat : Int)) = ⟨l.toArray⟩ := by
  apply ByteArray.ext
  apply Array.ext'
  rw [strOfNums_data, List.map_map]
  conv => rhs; rw [← List.map_id l]
  apply List.map_congr_left
  intro x _
  simp
theorem SL.convert {w : World} {B : Nat} {v : Value} {l : List UInt8} (h : SL w B v l) : Sem.run Try.prog (convert 22 9 v) w = .ok (.string ⟨l.toArray⟩) w := by
  obtain ⟨A, c, rfl, _, _, h3⟩ := h
  rw [(SL.bytesIn h3).convert (P := Try.prog) (by simp) c 22 5 9 Try.underlying22 Try.underlying5 Try.underlying9, strOfNums_map]

theorem Rd.take {w : World} {B : Nat} {A : Option Addr} {l : List UInt8} (h : Rd w B A l) (m : Nat) : Rd w B A (l.take m) := fun hn => by
  rw [List.length_take] at hn
  obtain ⟨b, o, hA, hb, hc⟩ := h (by omega)
  refine ⟨b, o, hA, hb, fun k hk => ?_⟩
  rw [List.length_take] at hk
  rw [hc k (by omega)]
  simp [List.getD, show k < m by omega]

theorem SL.take {w : World} {B c m : Nat} {A : Option Addr} {l : List UInt8} (h : SL w B (.slice A l.length c) l) (hm : m ≤ l.length) : SL w B (.slice A m c) (l.take m) := by
  obtain ⟨A', c', e, h1, h2, h3⟩ := h
  simp only [Value.slice.injEq, true_and] at e
  obtain ⟨rfl, rfl⟩ := e
  exact ⟨A, c, by rw [List.length_take, Nat.min_eq_left hm], by rw [List.length_take]; omega, h2, h3.take m⟩

theorem pbeg_any (a p : List UInt8) (v u : Value) (w : World) (B : Nat) (ha : SL w B v a) (hb : SL w B u p) :
    Calls Try.prog 27 #[v, u] w fun e w' => e = .returned (.bool (p.isPrefixOf a)) ∧ w = w' := by
  obtain ⟨A1, c1, rfl, h11, h12, h13⟩ := ha
  obtain ⟨A2, c2, rfl, h21, h22, h23⟩ := hb
  have hc := Try.bytes_HasPrefix_all A1 A2 a.length c1 p.length c2 _ _ w (by simp) (by simp) h11 (SL.bytesIn h13) (SL.bytesIn h23)
  rw [bytesOf_map, bytesOf_map] at hc
  have HC := Lib.hid hc
  clear hc
  go_enter Try.func27, Try.ntmps27
  go_wp2_with (go_at_call 65; refine HC.out.mono ?_; rintro e w' ⟨rfl, rfl⟩)
  go_ret
  exact ⟨rfl, rfl⟩

theorem cmp_take_prefix (a p : List UInt8) (h : p.length ≤ a.length) : (cmpL (a.take p.length) p == 0) = p.isPrefixOf a := by
  rw [Bool.eq_iff_iff, beq_iff_eq, List.isPrefixOf_iff_prefix]
  constructor
  · intro e
    have := cmpL_eq_zero e
    exact ⟨a.drop p.length, by conv => rhs; rw [← List.take_append_drop p.length a, this]⟩
  · rintro ⟨t, rfl⟩
    rw [List.take_left]
    exact cmpL_self p

set_option maxRecDepth 100000 in
theorem rbeg_any (a p : List UInt8) (v u : Value) (w : World) (B : Nat) (ha : SL w B v a) (hb : SL w B u p) :
    Calls Try.prog 28 #[v, u] w fun e w' => e = .returned (.bool (p.isPrefixOf a)) ∧ ∃ n, w' = w.drewN n := by
  by_cases hl : p.length ≤ a.length
  · have hc := fun (A : Option Addr) (c : Nat) (h : SL w B (.slice A a.length c) a) => rcmp_any (a.take p.length) p (.slice A p.length c) u w B (h.take hl) hb
    have HQ := Lib.hid (cmp_take_prefix a p hl)
    have ha' := ha
    obtain ⟨A1, c1, rfl, h11, h12, h13⟩ := ha
    have HC := Lib.hid (hc A1 c1 ha')
    clear hc ha'
    obtain ⟨A2, c2, rfl, h21, h22, h23⟩ := hb
    unfold maxLen at h12
    go_enter Try.func28, Try.ntmps28
    go_wp2_with (go_at_call 26; refine HC.out.mono ?_; rintro e w' ⟨rfl, n, rfl⟩)
    go_ret
    exact ⟨by rw [HQ.out]; rfl, n, rfl⟩
  · obtain ⟨A1, c1, rfl, h11, h12, h13⟩ := ha
    obtain ⟨A2, c2, rfl, h21, h22, h23⟩ := hb
    have hq : p.isPrefixOf a = false := by
      rw [Bool.eq_false_iff]
      intro e
      rw [List.isPrefixOf_iff_prefix] at e
      exact hl e.length_le
    have HQ := Lib.hid hq
    have hl' : a.length < p.length := by omega
    clear hq hl
    go_enter Try.func28, Try.ntmps28
    go_wp2
    go_ret
    exact ⟨by rw [HQ.out]; rfl, 0, rfl⟩

end Go.Proofs.Ytahnmnbjgbfeaaa
