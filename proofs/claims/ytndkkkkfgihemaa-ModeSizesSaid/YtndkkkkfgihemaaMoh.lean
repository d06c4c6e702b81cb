/-
  Layer 20: slices.Chunk's contract as an iterator over a slice of bytes, eight at a time; a drawn region in a round of a loop over an iterator.
-/
import Derived.Test.YtndkkkkfgihemaaMog
import Derived.RangeFuncBox
import Derived.ControlIn
import Derived.Deep.QuietTactic
import Derived.BigQuiet
import Derived.RangeFuncNested
import Derived.RangeFuncBound
import Derived.RangeFuncCalls
import Derived.RangeFuncLeaves
import Derived.Shelf.Abstract
import Derived.Shelf.RegionOpen
import Derived.RegionIn
import Derived.OwnWalkIn
import Derived.TacticsInMore
import Derived.LoopNIn
import Derived.LoopIn
import Derived.OrdersHeld
import Derived.OrdersIn
namespace Go.Proofs.Ytndkkkkfgihemaa
set_option linter.unusedVariables false
set_option linter.unusedSimpArgs false
open Go.RowKit

attribute [local go_sem] Oper.semAt_some

theorem chunk_in (n : Nat) (A : Option Addr) (len cap : Nat) (w : World) :
    CallsIn Fence.wide n Try.prog 55 #[.slice A len cap, .int .i64 8] w fun e w' => e = .returned (.func (.func 65) #[] #[.pointer (some ⟨w.heap.size, 0, none⟩), .pointer (some ⟨w.heap.size + 1, 0, none⟩)]) ∧ w' = (w.alloc (.cells #[.slice A len cap] 22)).alloc (.cells #[.int .i64 8] 3) := by
  refine callsIn_of_wp Try.func55 rfl trivial ?_ rfl
  simp only [Try.ntmps55, List.size_toArray, List.length_cons, List.length_nil, Nat.reduceAdd, Nat.reduceSub, Array.replicate_succ, Array.replicate_zero, List.push_toArray, List.append_toArray, List.nil_append, List.cons_append]
  gi_wp2
  go_ret
  exact ⟨rfl, rfl⟩

/-- Chunk number x of a slice of len bytes at b, o. -/
def chunkV (b o len : Nat) (x : Nat) : Value := .slice (some ⟨b, o + 8 * x, none⟩) (min 8 (len - 8 * x)) (min 8 (len - 8 * x))
/-- What a round of the loop over the chunks keeps. -/
def KpC (n₀ Bs Bn : Nat) (W W' : World) : Prop := Below n₀ W W' ∧ (∀ u, Boxed W Bs 22 u → Boxed W' Bs 22 u) ∧ ∀ u, Boxed W Bn 3 u → Boxed W' Bn 3 u
theorem KpC.trans {n₀ Bs Bn : Nat} {A B C : World} (h : KpC n₀ Bs Bn A B) (k : KpC n₀ Bs Bn B C) : KpC n₀ Bs Bn A C := ⟨h.1.trans k.1, fun u hu => k.2.1 u (h.2.1 u hu), fun u hu => k.2.2 u (h.2.2 u hu)⟩
theorem boxed_putObj {W : World} {B l : Nat} {t : TypeId} {u : Value} {o : Obj} (o' : Obj) (h : Boxed W B t u) (hl : W.heap[l]? = some o) (ho : o.isCells = false) : Boxed (W.putObj l o') B t u :=
  h.kept (grownBy_putObj' W l o') (fun e => by
    cases e
    rw [show W.heap[B]? = _ from h] at hl
    cases hl
    cases ho)
theorem KpC.block {n₀ Bs Bn : Nat} {w : World} (hn : n₀ ≤ w.heap.size) (W : World) (l : Nat) (o o' : Obj) (hl : w.heap.size ≤ l) (h : W.heap[l]? = some o) (hc : o.isCells = false) (hw : o.isWalk = false) : KpC n₀ Bs Bn W (W.putObj l o') :=
  ⟨belowK_b hn W l o o' hl h hc hw, fun u hu => boxed_putObj o' hu h hc, fun u hu => boxed_putObj o' hu h hc⟩
theorem boxed_drew {W : World} {B : Nat} {t : TypeId} {u : Value} (h : Boxed W B t u) : Boxed W.drew B t u := h
theorem grown_drew (W : World) : W.grownBy W.drew none := ⟨rfl, rfl, rfl, Nat.le_refl _, fun _ _ _ => rfl⟩

set_option maxRecDepth 100000 in
set_option maxHeartbeats 2000000 in
theorem chunk1_in (n : Nat) (lk Bs Bn n₀ b o len cap K : Nat) (hlen : len ≤ 10000) (hcap : len ≤ cap) (hmax : cap ≤ maxLen) (hK1 : len ≤ 8 * K) (hK2 : 8 * K < len + 8) (J Jx : List (Fin K) → World → Prop)
    (hJ : ∀ s W n, J s W → J s (W.drewN n))
    (hY : ∀ pre x W, J pre W → pre.length < K → YieldAt Fence.wide n Try.prog lk #[chunkV b o len x.1] W fun e W' =>
      (e = .returned (.bool true) ∧ J (pre ++ [x]) W' ∧ KpC n₀ Bs Bn W W') ∨ (e = .returned (.bool false) ∧ Jx (pre ++ [x]) W'))
    (W : World) (hBs : Boxed W Bs 22 (.slice (some ⟨b, o, none⟩) len cap)) (hBn : Boxed W Bn 3 (.int .i64 8)) (h0 : J [] W) :
    CallsIn Fence.wide (n + 1) Try.prog 65 #[.func (.yield lk) #[] #[], .pointer (some ⟨Bs, 0, none⟩), .pointer (some ⟨Bn, 0, none⟩)] W fun e W' => (∃ v, e = .returned v) ∧
      ((∃ ys, ys.map Fin.val = List.range K ∧ J ys W') ∨ (∃ pre, True ∧ Jx pre W')) := by
  unfold maxLen at hmax
  refine callsIn_of_wp Try.func65 rfl trivial ?_ rfl
  simp only [Try.ntmps65, List.size_toArray, List.length_cons, List.length_nil, Nat.reduceAdd, Nat.reduceSub, Array.replicate_succ, Array.replicate_zero, List.push_toArray, List.append_toArray, List.nil_append, List.cons_append]
  gi_wp2
  gi_loopw [4] (fun i wr => ∃ pre : List (Fin K), i = .int .i64 ((8 * pre.length : Nat) : Int) ∧ pre.map Fin.val = List.range pre.length ∧ pre.length ≤ K ∧ J pre wr ∧ Boxed wr Bs 22 (.slice (some ⟨b, o, none⟩) len cap) ∧ Boxed wr Bn 3 (.int .i64 8))
    (fun i _ => len + 8 - (intOf i).toNat)
  case atStart => exact ⟨[], rfl, rfl, Nat.zero_le _, h0, hBs, hBn⟩
  case round =>
    obtain ⟨pre, rfl, hpre, hk, hJs, hb1, hb2⟩ := hrel
    have c1 := hb1.cell
    have c2 := hb2.cell
    by_cases hlt : pre.length < K
    · have hi : 8 * pre.length < len := by omega
      have HP := Lib.hid hpre
      clear hpre
      have HYY := Lib.hid (fun W h => hY pre ⟨pre.length, hlt⟩ W h hlt)
      have HJ := Lib.hid (fun n => hJ pre wr n hJs)
      clear hY hJ hJs
      obtain ⟨i, ei⟩ : ∃ i, 8 * pre.length = i := ⟨_, rfl⟩
      rw [ei] at hi
      have hci : i < cap := by omega
      have hi1 : (i : Int) < (len : Int) := by omega
      have hi2 : (i : Int) ≤ (len : Int) := by omega
      have EI := Lib.hid ei
      rw [ei]
      clear ei
      gi_wp2
      refine wpIn_wide.2 ?_
      go_quiet (fail)
      obtain ⟨m, em⟩ : ∃ m, min 8 (len - i) = m := ⟨_, rfl⟩
      have hm : min 8 ((len - i : Nat) : Int) = (m : Int) := by rw [← em]; omega
      rw [hm]
      clear hm
      have hm1 : 1 ≤ m := by omega
      have hm3 : m ≤ 8 := by omega
      have him : i + m ≤ len := by omega
      have him2 : ((i : Int) + (m : Int)) ≤ (cap : Int) := by omega
      have him3 : (i : Int) ≤ (i : Int) + (m : Int) := by omega
      obtain ⟨fn, tmps, assign, body, hy, hR⟩ := HYY.out (wr.drewN nq) (HJ.out nq)
      unfold chunkV at hy
      try dsimp only at hy
      rw [EI.out, em] at hy
      have EM := Lib.hid em
      clear em
      have d1 : Boxed (wr.drewN nq) Bs 22 (.slice (some ⟨b, o, none⟩) len cap) := hb1
      have d2 : Boxed (wr.drewN nq) Bn 3 (.int .i64 8) := hb2
      gi_wp2
      refine hR.mono ?_
      rintro e W3 (⟨rfl, hJ3, hk3⟩ | ⟨rfl, hJx3⟩)
      · have e1 := hk3.2.1 _ d1
        have e2 := hk3.2.2 _ d2
        have c3 := e2.cell
        have HJ3 := Lib.hid hJ3
        clear hJ3
        gi_wp2
        go_roundw
        case rel =>
          refine ⟨pre ++ [⟨pre.length, hlt⟩], ?_, ?_, by simp; omega, HJ3.out, e1, e2⟩
          · rw [List.length_append, show 8 * (pre.length + [(⟨pre.length, hlt⟩ : Fin K)].length) = 8 * pre.length + 8 from rfl, EI.out]
            go_num
          · rw [List.map_append, HP.out, List.length_append]
            simp [List.range_succ]
        case measure => simp [intOf]; omega
      · gi_wp2
        refine bodyPost_ret (results_none rfl _ _ _) rfl ?_
        exact ⟨⟨_, rfl⟩, .inr ⟨_, trivial, hJx3⟩⟩
    · have ek : pre.length = K := by omega
      have hi : ¬ 8 * pre.length < len := by omega
      rw [ek] at hpre
      have HP := Lib.hid hpre
      clear hpre ek
      generalize 8 * pre.length = i at *
      gi_wp2
      go_end0
      exact ⟨⟨_, rfl⟩, .inl ⟨pre, HP.out, hJs⟩⟩

/-- .. at a slice without a byte: no round. -/
theorem chunk0_in (n : Nat) (lk Bs Bn cap : Nat) (A : Option Addr) (J : List (Fin 0) → World → Prop) (W : World) (hBs : Boxed W Bs 22 (.slice A 0 cap)) (h0 : J [] W) :
    CallsIn Fence.wide n Try.prog 65 #[.func (.yield lk) #[] #[], .pointer (some ⟨Bs, 0, none⟩), .pointer (some ⟨Bn, 0, none⟩)] W fun e W' => (∃ v, e = .returned v) ∧ J [] W' := by
  have c1 := hBs.cell
  refine callsIn_of_wp Try.func65 rfl trivial ?_ rfl
  simp only [Try.ntmps65, List.size_toArray, List.length_cons, List.length_nil, Nat.reduceAdd, Nat.reduceSub, Array.replicate_succ, Array.replicate_zero, List.push_toArray, List.append_toArray, List.nil_append, List.cons_append]
  gi_wp2
  gi_loopw [4] (fun i wr => i = .int .i64 0 ∧ J [] wr ∧ Boxed wr Bs 22 (.slice A 0 cap)) (fun _ _ => 0)
  case atStart => exact ⟨rfl, h0, hBs⟩
  case round =>
    obtain ⟨rfl, hJs, hb1⟩ := hrel
    have c2 := hb1.cell
    gi_wp2
    go_end0
    exact ⟨⟨_, rfl⟩, hJs⟩
section
variable {P : Program} {n l : Nat} {ops : Array Oper} {md : Region.Mode} {Q : Exit → Act → World → Prop}

/-- An operation that is no defer statement, carried out in a round at the wide fence, as everywhere. -/
theorem oper_in {o : Oper} {a : Act} {w : World} {K : Act → World → Prop} (hd : ∀ c, o.op ≠ .defer c) (h : o.wp P a w K Q) : o.wpIn (Fence.wide.inRound l) n P a w K Q := by
  unfold Oper.wp at h
  unfold Oper.wpIn
  refine ⟨fun _ _ => trivial, ?_⟩
  rw [Oper.semAt_plain _ _ _ hd]
  generalize (execOp a.eval o).run P w = r at *
  cases r with
  | ok x w' =>
    cases x <;> simp only [Oper.upon] at h <;> simp only [Oper.uponIn]
    case value u => exact h
    case skip => exact h
    case defer d => exact h
    case enter f args => exact ⟨fun hh => by simp [Fence.wide] at hh, CallsIn.inRound l (callsIn_wide.2 h)⟩
    case row row args =>
      refine ⟨fun hh => by simp [Fence.wide] at hh, fun c cs _ => ?_⟩
      obtain ⟨v, w'', h1, h2⟩ := h c cs
      exact ⟨v, w'', h1, stepsIn_wide.2 h2⟩
  | halt x w' => cases x <;> simp only [Oper.upon] at h <;> simp only [Oper.uponIn] <;> exact h
theorem wpOp_in {i : Nat} {a : Act} {w : World} {K : Act → World → Prop} (hd : ∀ (j : Nat) (o : Oper), ops[j]? = some o → ∀ c, o.op ≠ .defer c) (hL : ¬ LetsOut Q) (h : wpOp P ops Q i K a w) : wpOpIn (Fence.wide.inRound l) n P ops Q i K a w := by
  unfold wpOp at h
  unfold wpOpIn
  split
  · rename_i ho; simp only [ho] at h; exact h
  · rename_i o ho
    simp only [ho] at h
    split
    · rename_i hw
      simp only [hw, if_true] at h
      rcases h with h | h
      · exact oper_in (hd i o ho) h
      · exact absurd h.2 hL
    · rename_i hw
      simp only [hw] at h
      exact ⟨fun _ _ => trivial, h⟩
theorem wpAny_in (hd : ∀ (j : Nat) (o : Oper), ops[j]? = some o → ∀ c, o.op ≠ .defer c) (hL : ¬ LetsOut Q) : ∀ (fuel : Nat) (listed : Array Bool) (a : Act) (w : World), wpAny P md ops Q fuel listed a w → wpAnyIn (Fence.wide.inRound l) n P md ops Q fuel listed a w
  | 0, _, _, _, h => h
  | fuel + 1, _, a, w, h => ⟨h.1, fun i hi => wpOpIn_mono (fun a' w' h' => wpAny_in hd hL fuel _ a' w' h') (wpOp_in hd hL (h.2 i hi))⟩
theorem region_held_in {S : World → Prop} {id : Nat} {a : Act} {w : World} (hm : P.follows .mixedOrders = true) (hd : ∀ (j : Nat) (o : Oper), ops[j]? = some o → ∀ c, o.op ≠ .defer c) (hL : ¬ LetsOut Q)
    (h : wpAnyH P .any ops Q S ops.size (Array.replicate ops.size false) a { w with drawn := w.drawn + 1 }) : (Code.region id ops true).wpIn (Fence.wide.inRound l) n P Q a w :=
  wpIn_region_any hm (wpAny_in hd hL _ _ _ _ (wpAny_of_held _ _ _ _ h))
theorem wpList_in : ∀ (r : List Oper) (a : Act) (w : World), (∀ o ∈ r, ∀ c, o.op ≠ .defer c) → ¬ LetsOut Q → wpList P ops Q r a w → wpListIn (Fence.wide.inRound l) n P ops Q r a w
  | [], _, _, _, _, h => h
  | o :: r, a, w, hd, hL, h => by
    unfold wpList at h
    unfold wpListIn
    split
    · rename_i hw
      simp only [hw, if_true] at h
      rcases h with h | h
      · exact Oper.wpIn_mono (fun a' w' h' => wpList_in r a' w' (fun o ho => hd o (by simp [ho])) hL h') (oper_in (hd o (by simp)) h)
      · exact absurd h.2 hL
    · rename_i hw
      simp only [hw] at h
      exact ⟨fun _ _ => trivial, wpList_in r _ _ (fun o ho => hd o (by simp [ho])) hL h⟩
theorem region_list_in {id : Nat} {r : List Oper} {a : Act} {w : World} (hd : ∀ o ∈ r, ∀ c, o.op ≠ .defer c) (hL : ¬ LetsOut Q) (h : wpList P r.toArray Q r a w) : (Code.region id r.toArray false).wpIn (Fence.wide.inRound l) n P Q a w :=
  wpIn_region_lit (wpList_in r a w hd hL h)
def noDeferB (ops : Array Oper) : Bool := ops.toList.all fun o => match o.op with | .defer _ => false | _ => true
theorem noDefer_of (h : noDeferB ops = true) : ∀ (j : Nat) (o : Oper), ops[j]? = some o → ∀ c, o.op ≠ .defer c := by
  intro j o ho c hc
  have hm : o ∈ ops.toList := by
    obtain ⟨hj, e⟩ := Array.getElem?_eq_some_iff.1 ho
    subst e
    exact Array.getElem_mem_toList hj
  have := List.all_eq_true.1 h o hm
  rw [hc] at this
  cases this
/-- An operation taken first, its slot and its value written out. -/
theorem wpAnyH_takeAt {S : World → Prop} (i d : Nat) (v : Value) {oi : Oper} {fuel : Nat} {listed : Array Bool} {T : Array Value} {ds : List Deferred} {w : World} (hi : ops[i]? = some oi) (hdst : oi.dst = some d)
    (hs : Region.noSelect ops = true) (hf : Region.free md ops listed i = true) (hr : (Region.ready md ops listed).contains i = true)
    (hQ : ∀ c a w, Q (.panic c) (Act.put a oi.dst v) w → Q (.panic c) a w) (hg : oi.guard = none) (hy : ∀ w, S w → (execOp ({ tmps := T, defers := ds } : Act).eval oi).run P w = .ok (.value v) w) (hS : S w)
    (h : wpAnyH P md ops Q S fuel (listed.setIfInBounds i true) { tmps := T.setIfInBounds d v, defers := ds } w) : wpAnyH P md ops Q S (fuel + 1) listed { tmps := T, defers := ds } w := by
  refine wpAnyH_take (v := v) hi hs hf hr (fun c a w => hQ c a w) (.inl ⟨by simp [Region.wanted, hg], hy⟩) hS ?_
  rw [hdst]
  exact h
/-- The one operation that may come up. -/
theorem wpAnyH_one {S : World → Prop} {i fuel : Nat} {o : Oper} {listed : Array Bool} {a : Act} {w : World} (hr : Region.ready md ops listed = [i]) (hi : ops[i]? = some o) (hg : o.guard = none)
    (h : ∀ K : Act → World → Prop, (∀ a' w', S w' → wpAnyH P md ops Q S fuel (listed.setIfInBounds i true) a' w' → K a' w') → o.wp P a w K Q) : wpAnyH P md ops Q S (fuel + 1) listed a w := by
  refine wpAnyH_all hr (by simp) fun j hj => ?_
  obtain rfl : j = i := by simpa using hj
  unfold wpOp
  simp only [hi, Region.wanted, hg, if_true]
  exact .inl (h _ fun a' w' h1 h2 => ⟨h1, h2⟩)
/-- Two operations that may come up. -/
theorem wpAnyH_two {S : World → Prop} {i k fuel : Nat} {o u : Oper} {listed : Array Bool} {a : Act} {w : World} (hr : Region.ready md ops listed = [i, k]) (hi : ops[i]? = some o) (hg : o.guard = none) (hk : ops[k]? = some u) (hgk : u.guard = none)
    (h1 : ∀ K : Act → World → Prop, (∀ a' w', S w' → wpAnyH P md ops Q S fuel (listed.setIfInBounds i true) a' w' → K a' w') → o.wp P a w K Q)
    (h2 : ∀ K : Act → World → Prop, (∀ a' w', S w' → wpAnyH P md ops Q S fuel (listed.setIfInBounds k true) a' w' → K a' w') → u.wp P a w K Q) : wpAnyH P md ops Q S (fuel + 1) listed a w := by
  refine wpAnyH_all hr (by simp) fun j hj => ?_
  have : j = i ∨ j = k := by simpa using hj
  rcases this with rfl | rfl
  · unfold wpOp
    simp only [hi, Region.wanted, hg, if_true]
    exact .inl (h1 _ fun a' w' h1 h2 => ⟨h1, h2⟩)
  · unfold wpOp
    simp only [hk, Region.wanted, hgk, if_true]
    exact .inl (h2 _ fun a' w' h1 h2 => ⟨h1, h2⟩)
end

theorem chunk_stops (n Bs Bn n₀ b o len cap K : Nat) (w : World) (hlen : len ≤ 10000) (hcap : len ≤ cap) (hmax : cap ≤ maxLen) (hK1 : len ≤ 8 * K) (hK2 : 8 * K < len + 8)
    (hBs : Boxed w Bs 22 (.slice (some ⟨b, o, none⟩) len cap)) (hBn : Boxed w Bn 3 (.int .i64 8)) :
    SeqStopsK Fence.wide (n + 1) Try.prog 65 #[.pointer (some ⟨Bs, 0, none⟩), .pointer (some ⟨Bn, 0, none⟩)] (fun x : Fin K => #[chunkV b o len x.1]) (KpC n₀ Bs Bn) (fun ys => ys.map Fin.val = List.range K) (fun _ => True) K w := fun l J Jx W hW hJ hJx hY h0 =>
  chunk1_in n l Bs Bn n₀ b o len cap K hlen hcap hmax hK1 hK2 J Jx (fun s W1 m hs => by
    exact hJ s W1 (W1.drewN m) none hs ⟨rfl, rfl, rfl, Nat.le_refl _, fun _ _ _ => rfl⟩ (fun r e => by cases e)) hY W ((hW.block Bs hBs.lt).trans hBs) ((hW.block Bn hBn.lt).trans hBn) h0
theorem chunk_stops0 (n Bs Bn n₀ cap : Nat) (A : Option Addr) (w : World) (hBs : Boxed w Bs 22 (.slice A 0 cap)) :
    SeqStopsK Fence.wide (n + 1) Try.prog 65 #[.pointer (some ⟨Bs, 0, none⟩), .pointer (some ⟨Bn, 0, none⟩)] (fun x : Fin 0 => #[chunkV 0 0 0 x.1]) (KpC n₀ Bs Bn) (fun ys => ys.map Fin.val = List.range 0) (fun _ => True) 0 w := fun l J Jx W hW hJ hJx hY h0 =>
  (chunk0_in (n + 1) l Bs Bn cap A J W ((hW.block Bs hBs.lt).trans hBs) h0).mono fun e W' ⟨h1, h2⟩ => ⟨h1, .inl ⟨[], rfl, h2⟩⟩

theorem row_ne {W : World} {base size k : Nat} {v : Value} {xs : List Value} {e t : TypeId} {B : Nat} {cs : Array Value} {fr : Nat × Nat} (h : W.ownsRow base e size v k xs) (hB : W.heap[B]? = some (.cells cs t fr)) (ht : t ≠ e) : some B ≠ v.ownBlock := by
  rcases h.2 with ⟨rfl, _⟩ | ⟨g, cap, cur, rfl, _, hgb, _⟩
  · simp [Value.ownBlock]
  · intro e'
    obtain rfl : B = g := by simpa [Value.ownBlock] using e'
    rw [hgb] at hB
    simp at hB
    exact ht hB.2.1.symm
theorem keepsOthers_below {W W2 : World} (h : Below W.heap.size W W2) : KeepsOthers W W2 := ⟨h.size, fun k o hk _ => (h.block k (Array.getElem?_eq_some_iff.1 hk).1).trans hk⟩
theorem below_drew {B : Nat} {a w : World} (h : Below B a w) : Below B a w.drew := ⟨h.os, h.tape, h.output, h.size, h.block⟩
end Go.Proofs.Ytndkkkkfgihemaa
