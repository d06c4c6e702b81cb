
/-
  slices.Chunk: its contract as an iterator over a slice of bytes.
-/
import Derived.Test.YtiholfpcndjliaaDoorEci
import Derived.RangeFuncBox
import Derived.ControlIn
import Derived.Deep.QuietTactic
import Derived.BigQuiet
import Derived.RangeFuncNested
import Derived.RangeFuncBound
import Derived.RangeFuncCalls
import Derived.RangeFuncLeaves
import Derived.Shelf.Abstract
import Derived.Shelf.RegionOpen
import Derived.RegionIn
import Derived.OwnWalkIn
import Derived.TacticsInMore
import Derived.LoopNIn
import Derived.LoopIn
namespace Go.Proofs.YtiholfpcndjliaaDoor
set_option linter.unusedVariables false
set_option linter.unusedSimpArgs false
open Go.RowKit

attribute [local go_sem] Oper.semAt_some

theorem chunk_in (n : Nat) (A : Option Addr) (len cap : Nat) (w : World) :
    CallsIn Fence.wide n Tryd.prog 92 #[.slice A len cap, .int .i64 3] w fun e w' => e = .returned (.func (.func 103) #[] #[.pointer (some ⟨w.heap.size, 0, none⟩), .pointer (some ⟨w.heap.size + 1, 0, none⟩)]) ∧ w' = (w.alloc (.cells #[.slice A len cap] 39)).alloc (.cells #[.int .i64 3] 3) := by
  refine callsIn_of_wp Tryd.func92 rfl trivial ?_ rfl
  simp only [Tryd.ntmps92, List.size_toArray, List.length_cons, List.length_nil, Nat.reduceAdd, Nat.reduceSub, Array.replicate_succ, Array.replicate_zero, List.push_toArray, List.append_toArray, List.nil_append, List.cons_append]
  gi_wp2
  go_ret
  exact ⟨rfl, rfl⟩

/-- Chunk number x of a slice of len bytes at b, o. -/
def chunkV (b o len : Nat) (x : Nat) : Value := .slice (some ⟨b, o + 3 * x, none⟩) (min 3 (len - 3 * x)) (min 3 (len - 3 * x))
/-- What a round of the loop over the chunks keeps. -/
def KpC (n₀ Bs Bn : Nat) (W W' : World) : Prop := Below n₀ W W' ∧ (∀ u, Boxed W Bs 39 u → Boxed W' Bs 39 u) ∧ ∀ u, Boxed W Bn 3 u → Boxed W' Bn 3 u
theorem KpC.trans {n₀ Bs Bn : Nat} {A B C : World} (h : KpC n₀ Bs Bn A B) (k : KpC n₀ Bs Bn B C) : KpC n₀ Bs Bn A C := ⟨h.1.trans k.1, fun u hu => k.2.1 u (h.2.1 u hu), fun u hu => k.2.2 u (h.2.2 u hu)⟩
theorem boxed_putObj {W : World} {B l : Nat} {t : TypeId} {u : Value} {o : Obj} (o' : Obj) (h : Boxed W B t u) (hl : W.heap[l]? = some o) (ho : o.isCells = false) : Boxed (W.putObj l o') B t u :=
  h.kept (grownBy_putObj' W l o') (fun e => by
    cases e
    rw [show W.heap[B]? = _ from h] at hl
    cases hl
    cases ho)
theorem KpC.block {n₀ Bs Bn : Nat} {w : World} (hn : n₀ ≤ w.heap.size) (W : World) (l : Nat) (o o' : Obj) (hl : w.heap.size ≤ l) (h : W.heap[l]? = some o) (hc : o.isCells = false) (hw : o.isWalk = false) : KpC n₀ Bs Bn W (W.putObj l o') :=
  ⟨belowK_b hn W l o o' hl h hc hw, fun u hu => boxed_putObj o' hu h hc, fun u hu => boxed_putObj o' hu h hc⟩
theorem boxed_drew {W : World} {B : Nat} {t : TypeId} {u : Value} (h : Boxed W B t u) : Boxed W.drew B t u := h
theorem grown_drew (W : World) : W.grownBy W.drew none := ⟨rfl, rfl, rfl, Nat.le_refl _, fun _ _ _ => rfl⟩

set_option maxRecDepth 100000 in
set_option maxHeartbeats 2000000 in
theorem chunk1_in (n : Nat) (lk Bs Bn n₀ b o len cap K : Nat) (hlen : len ≤ 10000) (hcap : len ≤ cap) (hmax : cap ≤ maxLen) (hK1 : len ≤ 3 * K) (hK2 : 3 * K < len + 3) (J Jx : List (Fin K) → World → Prop)
    (hJ : ∀ s W n, J s W → J s (W.drewN n))
    (hY : ∀ pre x W, J pre W → pre.length < K → YieldAt Fence.wide n Tryd.prog lk #[chunkV b o len x.1] W fun e W' =>
      (e = .returned (.bool true) ∧ J (pre ++ [x]) W' ∧ KpC n₀ Bs Bn W W') ∨ (e = .returned (.bool false) ∧ Jx (pre ++ [x]) W'))
    (W : World) (hBs : Boxed W Bs 39 (.slice (some ⟨b, o, none⟩) len cap)) (hBn : Boxed W Bn 3 (.int .i64 3)) (h0 : J [] W) :
    CallsIn Fence.wide (n + 1) Tryd.prog 103 #[.func (.yield lk) #[] #[], .pointer (some ⟨Bs, 0, none⟩), .pointer (some ⟨Bn, 0, none⟩)] W fun e W' => (∃ v, e = .returned v) ∧
      ((∃ ys, ys.map Fin.val = List.range K ∧ J ys W') ∨ (∃ pre, True ∧ Jx pre W')) := by
  unfold maxLen at hmax
  refine callsIn_of_wp Tryd.func103 rfl trivial ?_ rfl
  simp only [Tryd.ntmps103, List.size_toArray, List.length_cons, List.length_nil, Nat.reduceAdd, Nat.reduceSub, Array.replicate_succ, Array.replicate_zero, List.push_toArray, List.append_toArray, List.nil_append, List.cons_append]
  gi_wp2
  gi_loopw [4] (fun i wr => ∃ pre : List (Fin K), i = .int .i64 ((3 * pre.length : Nat) : Int) ∧ pre.map Fin.val = List.range pre.length ∧ pre.length ≤ K ∧ J pre wr ∧ Boxed wr Bs 39 (.slice (some ⟨b, o, none⟩) len cap) ∧ Boxed wr Bn 3 (.int .i64 3))
    (fun i _ => len + 3 - (intOf i).toNat)
  case atStart => exact ⟨[], rfl, rfl, Nat.zero_le _, h0, hBs, hBn⟩
  case round =>
    obtain ⟨pre, rfl, hpre, hk, hJs, hb1, hb2⟩ := hrel
    have c1 := hb1.cell
    have c2 := hb2.cell
    by_cases hlt : pre.length < K
    · have hi : 3 * pre.length < len := by omega
      have HP := Lib.hid hpre
      clear hpre
      have HYY := Lib.hid (fun W h => hY pre ⟨pre.length, hlt⟩ W h hlt)
      have HJ := Lib.hid (fun n => hJ pre wr n hJs)
      clear hY hJ hJs
      obtain ⟨i, ei⟩ : ∃ i, 3 * pre.length = i := ⟨_, rfl⟩
      rw [ei] at hi
      have hci : i < cap := by omega
      have hi1 : (i : Int) < (len : Int) := by omega
      have hi2 : (i : Int) ≤ (len : Int) := by omega
      have EI := Lib.hid ei
      rw [ei]
      clear ei
      gi_wp2
      refine wpIn_wide.2 ?_
      go_quiet (fail)
      obtain ⟨m, em⟩ : ∃ m, min 3 (len - i) = m := ⟨_, rfl⟩
      have hm : (if ((len - i : Nat) : Int) < 3 then ((len - i : Nat) : Int) else 3) = (m : Int) := by rw [← em]; split <;> omega
      rw [hm]
      clear hm
      have hm1 : 1 ≤ m := by omega
      have hm3 : m ≤ 3 := by omega
      have him : i + m ≤ len := by omega
      have him2 : ((i : Int) + (m : Int)) ≤ (cap : Int) := by omega
      have him3 : (i : Int) ≤ (i : Int) + (m : Int) := by omega
      obtain ⟨fn, tmps, assign, body, hy, hR⟩ := HYY.out (wr.drewN nq) (HJ.out nq)
      unfold chunkV at hy
      try dsimp only at hy
      rw [EI.out, em] at hy
      have EM := Lib.hid em
      clear em
      have d1 : Boxed (wr.drewN nq) Bs 39 (.slice (some ⟨b, o, none⟩) len cap) := hb1
      have d2 : Boxed (wr.drewN nq) Bn 3 (.int .i64 3) := hb2
      gi_wp2
      refine hR.mono ?_
      rintro e W3 (⟨rfl, hJ3, hk3⟩ | ⟨rfl, hJx3⟩)
      · have e1 := hk3.2.1 _ d1
        have e2 := hk3.2.2 _ d2
        have c3 := e2.cell
        have HJ3 := Lib.hid hJ3
        clear hJ3
        gi_wp2
        go_roundw
        case rel =>
          refine ⟨pre ++ [⟨pre.length, hlt⟩], ?_, ?_, by simp; omega, HJ3.out, e1, e2⟩
          · rw [List.length_append, show 3 * (pre.length + [(⟨pre.length, hlt⟩ : Fin K)].length) = 3 * pre.length + 3 from rfl, EI.out]
            go_num
          · rw [List.map_append, HP.out, List.length_append]
            simp [List.range_succ]
        case measure => simp [intOf]; omega
      · gi_wp2
        refine bodyPost_ret (results_none rfl _ _ _) rfl ?_
        exact ⟨⟨_, rfl⟩, .inr ⟨_, trivial, hJx3⟩⟩
    · have ek : pre.length = K := by omega
      have hi : ¬ 3 * pre.length < len := by omega
      rw [ek] at hpre
      have HP := Lib.hid hpre
      clear hpre ek
      generalize 3 * pre.length = i at *
      gi_wp2
      go_end0
      exact ⟨⟨_, rfl⟩, .inl ⟨pre, HP.out, hJs⟩⟩

/-- .. at a slice without a byte: no round. -/
theorem chunk0_in (n : Nat) (lk Bs Bn cap : Nat) (A : Option Addr) (J : List (Fin 0) → World → Prop) (W : World) (hBs : Boxed W Bs 39 (.slice A 0 cap)) (h0 : J [] W) :
    CallsIn Fence.wide n Tryd.prog 103 #[.func (.yield lk) #[] #[], .pointer (some ⟨Bs, 0, none⟩), .pointer (some ⟨Bn, 0, none⟩)] W fun e W' => (∃ v, e = .returned v) ∧ J [] W' := by
  have c1 := hBs.cell
  refine callsIn_of_wp Tryd.func103 rfl trivial ?_ rfl
  simp only [Tryd.ntmps103, List.size_toArray, List.length_cons, List.length_nil, Nat.reduceAdd, Nat.reduceSub, Array.replicate_succ, Array.replicate_zero, List.push_toArray, List.append_toArray, List.nil_append, List.cons_append]
  gi_wp2
  gi_loopw [4] (fun i wr => i = .int .i64 0 ∧ J [] wr ∧ Boxed wr Bs 39 (.slice A 0 cap)) (fun _ _ => 0)
  case atStart => exact ⟨rfl, h0, hBs⟩
  case round =>
    obtain ⟨rfl, hJs, hb1⟩ := hrel
    have c2 := hb1.cell
    gi_wp2
    go_end0
    exact ⟨⟨_, rfl⟩, hJs⟩
end Go.Proofs.YtiholfpcndjliaaDoor
