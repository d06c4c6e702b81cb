
/-
  A drawn region in a round of a loop over an iterator; Chunk's contract; Pack of the program.
-/
import Derived.Test.YtiholfpcndjliaaDoorEcj
import Derived.OrdersHeld
import Derived.OrdersIn
namespace Go.Proofs.YtiholfpcndjliaaDoor
set_option linter.unusedVariables false
set_option linter.unusedSimpArgs false
open Go.RowKit

attribute [local go_sem] Oper.semAt_some

section
variable {P : Program} {n l : Nat} {ops : Array Oper} {md : Region.Mode} {Q : Exit → Act → World → Prop}

/-- An operation that is no defer statement, carried out in a round at the wide fence, as everywhere. -/
theorem oper_in {o : Oper} {a : Act} {w : World} {K : Act → World → Prop} (hd : ∀ c, o.op ≠ .defer c) (h : o.wp P a w K Q) : o.wpIn (Fence.wide.inRound l) n P a w K Q := by
  unfold Oper.wp at h
  unfold Oper.wpIn
  refine ⟨fun _ _ => trivial, ?_⟩
  rw [Oper.semAt_plain _ _ _ hd]
  generalize (execOp a.eval o).run P w = r at *
  cases r with
  | ok x w' =>
    cases x <;> simp only [Oper.upon] at h <;> simp only [Oper.uponIn]
    case value u => exact h
    case skip => exact h
    case defer d => exact h
    case enter f args => exact ⟨fun hh => by simp [Fence.wide] at hh, CallsIn.inRound l (callsIn_wide.2 h)⟩
    case row row args =>
      refine ⟨fun hh => by simp [Fence.wide] at hh, fun c cs _ => ?_⟩
      obtain ⟨v, w'', h1, h2⟩ := h c cs
      exact ⟨v, w'', h1, stepsIn_wide.2 h2⟩
  | halt x w' => cases x <;> simp only [Oper.upon] at h <;> simp only [Oper.uponIn] <;> exact h
theorem wpOp_in {i : Nat} {a : Act} {w : World} {K : Act → World → Prop} (hd : ∀ (j : Nat) (o : Oper), ops[j]? = some o → ∀ c, o.op ≠ .defer c) (hL : ¬ LetsOut Q) (h : wpOp P ops Q i K a w) : wpOpIn (Fence.wide.inRound l) n P ops Q i K a w := by
  unfold wpOp at h
  unfold wpOpIn
  split
  · rename_i ho; simp only [ho] at h; exact h
  · rename_i o ho
    simp only [ho] at h
    split
    · rename_i hw
      simp only [hw, if_true] at h
      rcases h with h | h
      · exact oper_in (hd i o ho) h
      · exact absurd h.2 hL
    · rename_i hw
      simp only [hw] at h
      exact ⟨fun _ _ => trivial, h⟩
theorem wpAny_in (hd : ∀ (j : Nat) (o : Oper), ops[j]? = some o → ∀ c, o.op ≠ .defer c) (hL : ¬ LetsOut Q) : ∀ (fuel : Nat) (listed : Array Bool) (a : Act) (w : World), wpAny P md ops Q fuel listed a w → wpAnyIn (Fence.wide.inRound l) n P md ops Q fuel listed a w
  | 0, _, _, _, h => h
  | fuel + 1, _, a, w, h => ⟨h.1, fun i hi => wpOpIn_mono (fun a' w' h' => wpAny_in hd hL fuel _ a' w' h') (wpOp_in hd hL (h.2 i hi))⟩
theorem region_held_in {S : World → Prop} {id : Nat} {a : Act} {w : World} (hm : P.follows .mixedOrders = true) (hd : ∀ (j : Nat) (o : Oper), ops[j]? = some o → ∀ c, o.op ≠ .defer c) (hL : ¬ LetsOut Q)
    (h : wpAnyH P .any ops Q S ops.size (Array.replicate ops.size false) a { w with drawn := w.drawn + 1 }) : (Code.region id ops true).wpIn (Fence.wide.inRound l) n P Q a w :=
  wpIn_region_any hm (wpAny_in hd hL _ _ _ _ (wpAny_of_held _ _ _ _ h))
theorem wpList_in : ∀ (r : List Oper) (a : Act) (w : World), (∀ o ∈ r, ∀ c, o.op ≠ .defer c) → ¬ LetsOut Q → wpList P ops Q r a w → wpListIn (Fence.wide.inRound l) n P ops Q r a w
  | [], _, _, _, _, h => h
  | o :: r, a, w, hd, hL, h => by
    unfold wpList at h
    unfold wpListIn
    split
    · rename_i hw
      simp only [hw, if_true] at h
      rcases h with h | h
      · exact Oper.wpIn_mono (fun a' w' h' => wpList_in r a' w' (fun o ho => hd o (by simp [ho])) hL h') (oper_in (hd o (by simp)) h)
      · exact absurd h.2 hL
    · rename_i hw
      simp only [hw] at h
      exact ⟨fun _ _ => trivial, wpList_in r _ _ (fun o ho => hd o (by simp [ho])) hL h⟩
theorem region_list_in {id : Nat} {r : List Oper} {a : Act} {w : World} (hd : ∀ o ∈ r, ∀ c, o.op ≠ .defer c) (hL : ¬ LetsOut Q) (h : wpList P r.toArray Q r a w) : (Code.region id r.toArray false).wpIn (Fence.wide.inRound l) n P Q a w :=
  wpIn_region_lit (wpList_in r a w hd hL h)
def noDeferB (ops : Array Oper) : Bool := ops.toList.all fun o => match o.op with | .defer _ => false | _ => true
theorem noDefer_of (h : noDeferB ops = true) : ∀ (j : Nat) (o : Oper), ops[j]? = some o → ∀ c, o.op ≠ .defer c := by
  intro j o ho c hc
  have hm : o ∈ ops.toList := by
    obtain ⟨hj, e⟩ := Array.getElem?_eq_some_iff.1 ho
    subst e
    exact Array.getElem_mem_toList hj
  have := List.all_eq_true.1 h o hm
  rw [hc] at this
  cases this
/-- An operation taken first, its slot and its value written out. -/
theorem wpAnyH_takeAt {S : World → Prop} (i d : Nat) (v : Value) {oi : Oper} {fuel : Nat} {listed : Array Bool} {T : Array Value} {ds : List Deferred} {w : World} (hi : ops[i]? = some oi) (hdst : oi.dst = some d)
    (hs : Region.noSelect ops = true) (hf : Region.free md ops listed i = true) (hr : (Region.ready md ops listed).contains i = true)
    (hQ : ∀ c a w, Q (.panic c) (Act.put a oi.dst v) w → Q (.panic c) a w) (hg : oi.guard = none) (hy : ∀ w, S w → (execOp ({ tmps := T, defers := ds } : Act).eval oi).run P w = .ok (.value v) w) (hS : S w)
    (h : wpAnyH P md ops Q S fuel (listed.setIfInBounds i true) { tmps := T.setIfInBounds d v, defers := ds } w) : wpAnyH P md ops Q S (fuel + 1) listed { tmps := T, defers := ds } w := by
  refine wpAnyH_take (v := v) hi hs hf hr (fun c a w => hQ c a w) (.inl ⟨by simp [Region.wanted, hg], hy⟩) hS ?_
  rw [hdst]
  exact h
/-- The one operation that may come up. -/
theorem wpAnyH_one {S : World → Prop} {i fuel : Nat} {o : Oper} {listed : Array Bool} {a : Act} {w : World} (hr : Region.ready md ops listed = [i]) (hi : ops[i]? = some o) (hg : o.guard = none)
    (h : ∀ K : Act → World → Prop, (∀ a' w', S w' → wpAnyH P md ops Q S fuel (listed.setIfInBounds i true) a' w' → K a' w') → o.wp P a w K Q) : wpAnyH P md ops Q S (fuel + 1) listed a w := by
  refine wpAnyH_all hr (by simp) fun j hj => ?_
  obtain rfl : j = i := by simpa using hj
  unfold wpOp
  simp only [hi, Region.wanted, hg, if_true]
  exact .inl (h _ fun a' w' h1 h2 => ⟨h1, h2⟩)
/-- Two operations that may come up. -/
theorem wpAnyH_two {S : World → Prop} {i k fuel : Nat} {o u : Oper} {listed : Array Bool} {a : Act} {w : World} (hr : Region.ready md ops listed = [i, k]) (hi : ops[i]? = some o) (hg : o.guard = none) (hk : ops[k]? = some u) (hgk : u.guard = none)
    (h1 : ∀ K : Act → World → Prop, (∀ a' w', S w' → wpAnyH P md ops Q S fuel (listed.setIfInBounds i true) a' w' → K a' w') → o.wp P a w K Q)
    (h2 : ∀ K : Act → World → Prop, (∀ a' w', S w' → wpAnyH P md ops Q S fuel (listed.setIfInBounds k true) a' w' → K a' w') → u.wp P a w K Q) : wpAnyH P md ops Q S (fuel + 1) listed a w := by
  refine wpAnyH_all hr (by simp) fun j hj => ?_
  have : j = i ∨ j = k := by simpa using hj
  rcases this with rfl | rfl
  · unfold wpOp
    simp only [hi, Region.wanted, hg, if_true]
    exact .inl (h1 _ fun a' w' h1 h2 => ⟨h1, h2⟩)
  · unfold wpOp
    simp only [hk, Region.wanted, hgk, if_true]
    exact .inl (h2 _ fun a' w' h1 h2 => ⟨h1, h2⟩)
end

theorem chunk_stops (n Bs Bn n₀ b o len cap K : Nat) (w : World) (hlen : len ≤ 10000) (hcap : len ≤ cap) (hmax : cap ≤ maxLen) (hK1 : len ≤ 3 * K) (hK2 : 3 * K < len + 3)
    (hBs : Boxed w Bs 39 (.slice (some ⟨b, o, none⟩) len cap)) (hBn : Boxed w Bn 3 (.int .i64 3)) :
    SeqStopsK Fence.wide (n + 1) Tryd.prog 103 #[.pointer (some ⟨Bs, 0, none⟩), .pointer (some ⟨Bn, 0, none⟩)] (fun x : Fin K => #[chunkV b o len x.1]) (KpC n₀ Bs Bn) (fun ys => ys.map Fin.val = List.range K) (fun _ => True) K w := fun l J Jx W hW hJ hJx hY h0 =>
  chunk1_in n l Bs Bn n₀ b o len cap K hlen hcap hmax hK1 hK2 J Jx (fun s W1 m hs => by
    exact hJ s W1 (W1.drewN m) none hs ⟨rfl, rfl, rfl, Nat.le_refl _, fun _ _ _ => rfl⟩ (fun r e => by cases e)) hY W ((hW.block Bs hBs.lt).trans hBs) ((hW.block Bn hBn.lt).trans hBn) h0
theorem chunk_stops0 (n Bs Bn n₀ cap : Nat) (A : Option Addr) (w : World) (hBs : Boxed w Bs 39 (.slice A 0 cap)) :
    SeqStopsK Fence.wide (n + 1) Tryd.prog 103 #[.pointer (some ⟨Bs, 0, none⟩), .pointer (some ⟨Bn, 0, none⟩)] (fun x : Fin 0 => #[chunkV 0 0 0 x.1]) (KpC n₀ Bs Bn) (fun ys => ys.map Fin.val = List.range 0) (fun _ => True) 0 w := fun l J Jx W hW hJ hJx hY h0 =>
  (chunk0_in (n + 1) l Bs Bn cap A J W ((hW.block Bs hBs.lt).trans hBs) h0).mono fun e W' ⟨h1, h2⟩ => ⟨h1, .inl ⟨[], rfl, h2⟩⟩

/-- One word appended, told as growth of the slice's own block alone. -/
theorem wp_app1WG {o : Oper} {a : Act} {W : World} {K : Act → World → Prop} {Q : Exit → Act → World → Prop} (s x : Operand)
    (ho : o.op = .call { callee := .builtin .append, args := #[s, x], argTypes := #[57, 57] }) (base : Nat) (v : Value) (l : List Nat) (y : Nat) (B : Nat)
    (hs : a.eval s = v) (hx : a.eval x = .slice (some ⟨B, 0, none⟩) 1 1) (hown : OW W base v l) (hB : W.heap[B]? = some (.cells #[.int .u32 (y : Int)] 59 (0, 0)))
    (hlen : l.length ≤ 10000000) (hbase : base ≤ W.heap.size)
    (h : ∀ g cap w', OW w' base (.slice (some ⟨g, 0, none⟩) (l.length + 1) cap) (l ++ [y]) → W.grownBy w' v.ownBlock → K (a.put o.dst (.slice (some ⟨g, 0, none⟩) (l.length + 1) cap)) w') : o.wp Tryd.prog a W K Q := by
  obtain ⟨i0, hi0, hz0, hz1, hz2⟩ := info_parts info22
  obtain ⟨v', w', hr, h2, h3, h4, h5⟩ := run_append_own_at (P := Tryd.prog) W base 57 o.type 59 i0 (.int .u32 0) 1 4 Tryd.underlying57 hi0 hz0 hz1 hz2 rfl (by omega) v l.length (l.map wv) hown ⟨B, 0, none⟩ 1 1 [wv y] (by simp)
      (fun j u hu => by
        have hj : j = 0 := by have := (List.getElem?_eq_some_iff.1 hu).1; simpa using this
        subst hj
        rw [addr_add, cell_of_row W B _ _ 59 (0, 0) hB, ← hu]; rfl) (by intro u hu; simp at hu; subst hu; rfl) (by simp only [maxLen]; omega) (by omega) hbase
  unfold Oper.wp execOp
  simp only [ho, resolve, invoke, builtin, Sem.run_bind, Sem.run_pure, Result.andThen_ok, List.map_toArray, List.map_cons, List.map_nil, hs, hx, hr]
  have h2' : OW w' base v' (l ++ [y]) := by
    unfold OW
    rw [List.length_append, List.map_append]
    exact h2
  obtain ⟨g, cap, rfl, _, _⟩ := World.ownsRow.form h2' (by simp)
  simp only [List.length_append, List.length_cons, List.length_nil, Nat.zero_add] at h2' ⊢
  exact h g cap w' h2' h3
theorem row_ne {W : World} {base size k : Nat} {v : Value} {xs : List Value} {e t : TypeId} {B : Nat} {cs : Array Value} {fr : Nat × Nat} (h : W.ownsRow base e size v k xs) (hB : W.heap[B]? = some (.cells cs t fr)) (ht : t ≠ e) : some B ≠ v.ownBlock := by
  rcases h.2 with ⟨rfl, _⟩ | ⟨g, cap, cur, rfl, _, hgb, _⟩
  · simp [Value.ownBlock]
  · intro e'
    obtain rfl : B = g := by simpa [Value.ownBlock] using e'
    rw [hgb] at hB
    simp at hB
    exact ht hB.2.1.symm
theorem keepsOthers_below {W W2 : World} (h : Below W.heap.size W W2) : KeepsOthers W W2 := ⟨h.size, fun k o hk _ => (h.block k (Array.getElem?_eq_some_iff.1 hk).1).trans hk⟩
theorem below_drew {B : Nat} {a w : World} (h : Below B a w) : Below B a w.drew := ⟨h.os, h.tape, h.output, h.size, h.block⟩
/-- What a round has left. -/
theorem pack_end {w W W3 w1 : World} {n₀ Bw Bs Bn B : Nat} {v v' : Value} {L L' : List Nat} {tmp : Obj} (h3 : Below W.heap.size W W3) (hv : Boxed W Bw 57 v) (hrow : OW W n₀ v L) (hB : Below n₀ w W) (hw : n₀ ≤ w.heap.size) (hBw : n₀ ≤ Bw) (h1 : Bs ≠ Bw) (h2 : Bn ≠ Bw)
    (hown' : OW w1 n₀ v' L') (hgrow : (W3.alloc tmp).grownBy w1 v.ownBlock) :
    KeepsFrom B W (w1.setCell ⟨Bw, 0, none⟩ v') ∧ KpC n₀ Bs Bn W (w1.setCell ⟨Bw, 0, none⟩ v') ∧ (∃ v, Boxed (w1.setCell ⟨Bw, 0, none⟩ v') Bw 57 v ∧ (w1.setCell ⟨Bw, 0, none⟩ v').ownsRow n₀ 59 1 v L'.length (L'.map wv) ∧ True) ∧ Below n₀ w (w1.setCell ⟨Bw, 0, none⟩ v') := by
  have hn := Nat.le_trans hw hB.size
  have hv3 : Boxed W3 Bw 57 v := (h3.block Bw hv.lt).trans hv
  have hrow3 : OW W3 n₀ v L := hrow.later h3
  obtain ⟨a1, a2, a3, a4, a5⟩ := hv3.appended (by decide) hrow3 (Nat.le_trans hn h3.size) hBw hown' hgrow
  have box : ∀ (Bx : Nat) (t : TypeId) (u : Value), t ≠ 59 → Bx ≠ Bw → Boxed W Bx t u → Boxed (w1.setCell ⟨Bw, 0, none⟩ v') Bx t u := by
    intro Bx t u ht hne hu
    have hu3 : Boxed W3 Bx t u := (h3.block Bx hu.lt).trans hu
    have hu1 : Boxed w1 Bx t u := (hu3.alloc tmp).kept hgrow (hu3.not_row ht hrow3)
    exact hu1.kept (grownBy_setCell' w1 Bw v') (by intro e; cases e; exact hne rfl)
  have hbel : Below n₀ W (w1.setCell ⟨Bw, 0, none⟩ v') := (h3.mono hn).trans a5
  exact ⟨((keepsOthers_below h3).trans a4).from _, ⟨hbel, fun u hu => box Bs 39 u (by decide) h1 hu, fun u hu => box Bn 3 u (by decide) h2 hu⟩, ⟨v', a2, a3, trivial⟩, hB.trans hbel⟩

/-- Three bytes from i on, those that lack 0. -/
def p3 (l : List UInt8) (i : Nat) : List Value := [bv (l.getD i 0), bv (l.getD (i + 1) 0), bv (l.getD (i + 2) 0)]
theorem p3_get (l : List UInt8) (i j : Nat) (hj : j < 3) : (p3 l i)[j]? = some (.int .u8 ((l.getD (i + j) 0).toNat : Int)) := by
  have h3 : j = 0 ∨ j = 1 ∨ j = 2 := by omega
  rcases h3 with rfl | rfl | rfl <;> rfl
theorem p3_len (l : List UInt8) (i m : Nat) (h : m ≤ 3) : ((p3 l i).take m).length = m := by rw [List.length_take]; show min m 3 = m; omega
theorem p3_one (l : List UInt8) (i m : Nat) : ∀ v ∈ (p3 l i).take m, v.oneCell' = true := by
  intro v hv
  have hv := List.mem_of_mem_take hv
  simp only [p3, List.mem_cons, List.not_mem_nil, or_false] at hv
  rcases hv with rfl | rfl | rfl <;> rfl
theorem getD_out (l : List UInt8) (i : Nat) (h : l.length ≤ i) : l.getD i 0 = 0 := by
  rw [List.getD_eq_getElem?_getD, List.getElem?_eq_none h]; rfl
theorem p3_splice (l : List UInt8) (i m : Nat) (h1 : 1 ≤ m) (h3 : m ≤ 3) (h : m < 3 → i + m = l.length) : splice [.int .u8 0, .int .u8 0, .int .u8 0] 0 ((p3 l i).take m) = p3 l i := by
  have h4 : m = 1 ∨ m = 2 ∨ m = 3 := by omega
  rcases h4 with rfl | rfl | rfl
  · have := h (by omega)
    simp only [p3, getD_out l (i + 1) (by omega), getD_out l (i + 2) (by omega)]
    rfl
  · have := h (by omega)
    simp only [p3, getD_out l (i + 2) (by omega)]
    rfl
  · rfl
/-- The code words of the chunks that have come. -/
def packF (l : List UInt8) (K : Nat) (pre : List (Fin K)) : List Nat := pre.map fun i => encW (numJ l (3 * i.1) 3)
theorem packF_snoc (l : List UInt8) (K : Nat) (pre : List (Fin K)) (x : Fin K) : packF l K (pre ++ [x]) = packF l K pre ++ [encW (numJ l (3 * x.1) 3)] := by simp [packF]
theorem packF_all (l : List UInt8) (K : Nat) (ys : List (Fin K)) (h : ys.map Fin.val = List.range K) : packF l K ys = packK l K := by
  unfold packF packK
  rw [← h, List.map_map]
  rfl

set_option maxRecDepth 100000 in
set_option maxHeartbeats 1600000 in
theorem ppack_pos (l : List UInt8) (b o cap : Nat) (w : World) (hl : l.length ≤ 10000) (hp : 0 < l.length) (hcap : l.length ≤ cap) (hmax : cap ≤ maxLen) (hb : b < w.heap.size)
    (hc : ∀ k, k < l.length → w.cell? ⟨b, o + k, none⟩ = some (.int .u8 ((l.getD k 0).toNat : Int))) (hT : Tb w) :
    Calls Tryd.prog 79 #[.slice (some ⟨b, o, none⟩) l.length cap] w (PackR l w) := by
  refine (callsIn_wide (n := 9)).1 ?_
  refine callsIn_of_wp_marks Tryd.func79 rfl trivial ?_ rfl
  simp only [Tryd.ntmps79, List.size_toArray, List.length_cons, List.length_nil, Nat.reduceAdd, Nat.reduceSub, Array.replicate_succ, Array.replicate_zero, List.push_toArray, List.append_toArray, List.nil_append, List.cons_append]
  refine wpIn_wide.2 ?_
  have HW := Lib.hid (fun W => pwords_any (l.length : Int) W (by omega) (by omega))
  have hK : wrdN (l.length : Int) = (wordsK l.length : Int) := by unfold wrdN wordsK; split <;> omega
  rw [hK] at HW
  have hK1 : l.length ≤ 3 * wordsK l.length ∧ 3 * wordsK l.length < l.length + 3 := by unfold wordsK; omega
  clear hK
  generalize hKK : wordsK l.length = K at *
  have HKK := Lib.hid hKK
  clear hKK
  have HC := Lib.hid hc
  have HT := Lib.hid hT
  clear hc hT
  go_wp2_with (first
    | (go_at_call 91; refine (HW.out _).mono ?_; rintro e w' ⟨rfl, rfl⟩)
    | (at_make; refine wpList_mk0W rfl _ _ rfl .i64 .i64 _ K rfl rfl rfl (by omega) ?_; intro w1 hown1 hb1)
    | (go_at_call 92; refine (callsIn_wide.1 (chunk_in 3 _ _ _ _)).mono ?_; rintro e w' ⟨rfl, rfl⟩))
  have hs1 := hb1.size
  obtain ⟨W0, hW0⟩ : ∃ W0, (((w1.alloc (.cells #[.slice (some ⟨w.heap.size, 0, none⟩) 0 K] 57)).alloc (.cells #[.slice (some ⟨b, o, none⟩) l.length cap] 39)).alloc (.cells #[.int .i64 3] 3)) = W0 := ⟨_, rfl⟩
  have q1 : Boxed W0 w1.heap.size 57 (.slice (some ⟨w.heap.size, 0, none⟩) 0 K) := by rw [← hW0]; exact ((Boxed.new w1 57 _).alloc _).alloc _
  have q2 : Boxed W0 (w1.heap.size + 1) 39 (.slice (some ⟨b, o, none⟩) l.length cap) := by
    have := (Boxed.new (w1.alloc (.cells #[.slice (some ⟨w.heap.size, 0, none⟩) 0 K] 57)) 39 (.slice (some ⟨b, o, none⟩) l.length cap)).alloc (.cells #[.int .i64 3] 3)
    rw [alloc_size, hW0] at this
    exact this
  have q3 : Boxed W0 (w1.heap.size + 1 + 1) 3 (.int .i64 3) := by
    have := Boxed.new ((w1.alloc (.cells #[.slice (some ⟨w.heap.size, 0, none⟩) 0 K] 57)).alloc (.cells #[.slice (some ⟨b, o, none⟩) l.length cap] 39)) 3 (.int .i64 3)
    rw [alloc_size, alloc_size, hW0] at this
    exact this
  have q4 : Below w1.heap.size w1 W0 := by rw [← hW0]; exact ((alloc_below _ _).alloc (by simp) _).alloc (by simp; omega) _
  have q5 : W0.heap.size = w1.heap.size + 3 := by rw [← hW0]; simp
  have q6 : OW W0 w.heap.size (.slice (some ⟨w.heap.size, 0, none⟩) 0 K) [] := hown1.later q4
  have q7 : Below w.heap.size w W0 := hb1.trans (q4.mono hs1)
  have HQ2 := Lib.hid q2
  have HQ3 := Lib.hid q3
  rw [hW0]
  clear hW0 q4 hown1
  refine wpIn_wide.1 (wpIn_rangeFunc_ownG (F := Fence.wide) (n := 9) rfl (by omega) (gf := 103) (lb := #[.pointer (some ⟨w1.heap.size + 1, 0, none⟩), .pointer (some ⟨w1.heap.size + 1 + 1, 0, none⟩)]) rfl trivial (enters_of Tryd.func103 (by kernel_rfl) rfl)
    (chunk_stops 7 (w1.heap.size + 1) (w1.heap.size + 1 + 1) w.heap.size b o l.length cap K W0 hl hcap hmax hK1.1 hK1.2 q2 q3) KpC.trans (KpC.block q7.size) (Below.refl _ _) (fun _ => rfl)
    (fun pre W => (∃ v, Boxed W w1.heap.size 57 v ∧ W.ownsRow w.heap.size 59 1 v (packF l K pre).length ((packF l K pre).map wv) ∧ True) ∧ Below w.heap.size w W) (fun _ _ _ => False)
    (OwnFrom.and (Own.from (holdsRow_own w.heap.size w1.heap.size 57 59 1 (fun pre => (packF l K pre).length) (fun pre => (packF l K pre).map wv) (fun _ _ => True)) _) (ownFrom_below (Nat.le_refl _) q7.size))
    (fun _ _ _ _ _ hs _ _ => hs)
    ⟨⟨_, q1, q6, trivial⟩, q7⟩
    (fun x => { tmps := #[.slice (some ⟨b, o, none⟩) l.length cap, undef, .slice none 0 0, .pointer (some ⟨w1.heap.size, 0, none⟩), chunkV b o l.length x.1, undef, .slice (some ⟨b, o, none⟩) l.length cap, .int .i64 (l.length : Int), .int .i64 (K : Int), .slice (some ⟨w.heap.size, 0, none⟩) 0 K, .slice (some ⟨b, o, none⟩) l.length cap,
      .func (.func 103) #[] #[.pointer (some ⟨w1.heap.size + 1, 0, none⟩), .pointer (some ⟨w1.heap.size + 1 + 1, 0, none⟩)], chunkV b o l.length x.1, undef, undef, undef, undef, undef, undef, undef, undef, undef, undef, undef, undef, undef, undef, undef, undef, undef, undef, undef, undef, undef], defers := [] }) ?assign ?body ?done ?stop)
  case assign =>
    intro l x W K hK
    gi_wp2
    exact hK
  case body =>
    rintro lk pre x W ⟨⟨v, hv, hrow, _⟩, hB⟩ _
    obtain ⟨A2, c2, rfl⟩ := OW.value (l := packF l K pre) hrow
    have hvc := hv.cell
    have hvf := hv.frozen
    have hx1 : x.1 < K := x.2
    have hm1 : 1 ≤ min 3 (l.length - 3 * x.1) ∧ min 3 (l.length - 3 * x.1) ≤ 3 ∧ 3 * x.1 + min 3 (l.length - 3 * x.1) ≤ l.length := by omega
    have hm4 : min 3 (l.length - 3 * x.1) < 3 → 3 * x.1 + min 3 (l.length - 3 * x.1) = l.length := by omega
    simp only [chunkV]
    obtain ⟨i, ei⟩ : ∃ i, 3 * x.1 = i := ⟨_, rfl⟩
    rw [ei] at hm1 hm4
    rw [ei]
    obtain ⟨m, em⟩ : ∃ m, min 3 (l.length - i) = m := ⟨_, rfl⟩
    rw [em] at hm1 hm4
    rw [em]
    have EI := Lib.hid ei
    have H4 := Lib.hid hm4
    clear ei em hm4
    have hcs : ∀ j v, ((p3 l i).take m)[j]? = some v → (W.alloc (.cells #[.int .u8 0, .int .u8 0, .int .u8 0] 150)).cell? ((⟨b, o + i, none⟩ : Addr).add j) = some v := by
      intro j v hj
      have hjm : j < m := by
        have := (List.getElem?_eq_some_iff.1 hj).1
        simp [p3] at this
        omega
      rw [List.getElem?_take_of_lt hjm] at hj
      rw [addr_add]
      have hWb : Below w.heap.size w (W.alloc (.cells #[.int .u8 0, .int .u8 0, .int .u8 0] 150)) := hB.alloc hB.size _
      rw [hWb.cell (p := ⟨b, o + i + j, none⟩) hb, Nat.add_assoc, HC.out (i + j) (by omega), ← hj, p3_get l i j (by omega)]
    have HCS := Lib.hid hcs
    clear hcs
    gi_wp2_with (refine wpList_in _ _ _ (by intro o ho c hc; simp at ho; subst ho; cases hc) (by rintro ⟨_, _, h⟩; exact h) ?_; refine wpList_copy_splice rfl _ _ 39 39 rfl 5 Tryd.underlying39 (by kernel_rfl) _ _ _ _ _ _ rfl rfl W.heap.size 0 [.int .u8 0, .int .u8 0, .int .u8 0] 150 (heap_alloc_new W _) ((p3 l i).take m) (by rw [p3_len l i m hm1.2.1]; exact (Nat.min_eq_left hm1.2.1).symm) (fun _ => ⟨rfl, _, rfl, HCS.out⟩) (by rw [p3_len l i m hm1.2.1]; show 0 + m ≤ 3; omega) (p3_one l i m) W.heap.size W (alloc_below W _) (Nat.le_refl _) ?_; intro W2 hrow2 hb2; rw [p3_splice l i m hm1.1 hm1.2.1 H4.out] at hrow2)
    have hrow2 : W2.heap[W.heap.size]? = some (.cells (p3 l i).toArray 150 (0, 0)) := hrow2.out
    have hT2 : Tb W2 := (HT.out.on hB).on hb2
    have hvc2 : W2.cell? ⟨w1.heap.size, 0, none⟩ = some (.slice A2 (packF l K pre).length c2) := (hb2.cell (p := ⟨w1.heap.size, 0, none⟩) hv.lt).trans hvc
    have hS : Hid (W2.drew.cell? ⟨W.heap.size, 0, none⟩ = some (.int .u8 ((l.getD i 0).toNat : Int)) ∧ W2.drew.cell? ⟨W.heap.size, 1, none⟩ = some (.int .u8 ((l.getD (i + 1) 0).toNat : Int)) ∧ W2.drew.cell? ⟨W.heap.size, 2, none⟩ = some (.int .u8 ((l.getD (i + 2) 0).toNat : Int))) := by
      refine ⟨?_, ?_, ?_⟩
      · show W2.cell? _ = _
        rw [cell_of_row W2 _ 0 _ 150 (0, 0) hrow2]; rfl
      · show W2.cell? _ = _
        rw [cell_of_row W2 _ 1 _ 150 (0, 0) hrow2]; rfl
      · show W2.cell? _ = _
        rw [cell_of_row W2 _ 2 _ 150 (0, 0) hrow2]; rfl
    have HR2 := Lib.hid hrow2
    have HT2 := Lib.hid hT2
    clear hrow2 hT2
    have hx0 := (l.getD i 0).toNat_lt
    have hx1' := (l.getD (i + 1) 0).toNat_lt
    have hx2 := (l.getD (i + 2) 0).toNat_lt
    have HN : Hid (numJ l i 3 = ((l.getD i 0).toNat * 256 + (l.getD (i + 1) 0).toNat) * 256 + (l.getD (i + 2) 0).toNat) := by show _ = _; simp [numJ]
    generalize (l.getD i 0).toNat = x0 at *
    generalize (l.getD (i + 1) 0).toNat = x1 at *
    generalize (l.getD (i + 2) 0).toNat = x2 at *
    refine wpList_nil ?_
    generalize hlm : min m (p3 l i).length = lm
    clear hlm
    gi_wp2
    refine region_held_in (S := fun w' => w'.cell? ⟨W.heap.size, 0, none⟩ = some (.int .u8 (x0 : Int)) ∧ w'.cell? ⟨W.heap.size, 1, none⟩ = some (.int .u8 (x1 : Int)) ∧ w'.cell? ⟨W.heap.size, 2, none⟩ = some (.int .u8 (x2 : Int))) (by kernel_rfl) ?hd (by rintro ⟨_, _, h⟩; exact h) ?_
    case hd => exact noDefer_of (by kernel_rfl)
    change wpAnyH _ _ _ _ _ 18 (Array.replicate 18 false) _ W2.drew
    have E3 : IntKind.i64.wrap (x0 : Int) = (x0 : Int) := IntWalk.i64_in _ (by omega)
    have E7 : IntKind.i64.wrap (x1 : Int) = (x1 : Int) := IntWalk.i64_in _ (by omega)
    have E12 : IntKind.i64.wrap (x2 : Int) = (x2 : Int) := IntWalk.i64_in _ (by omega)
    obtain ⟨y0, hy0⟩ : ∃ y0, x0 * 65536 = y0 := ⟨_, rfl⟩
    obtain ⟨y1, hy1⟩ : ∃ y1, x1 * 256 = y1 := ⟨_, rfl⟩
    have E4 : IntKind.i64.wrap ((x0 : Int) * 65536) = (y0 : Int) := by rw [IntWalk.i64_in _ (by omega)]; omega
    have E8 : IntKind.i64.wrap ((x1 : Int) * 256) = (y1 : Int) := by rw [IntWalk.i64_in _ (by omega)]; omega
    obtain ⟨y2, hy2⟩ : ∃ y2, y0 + y1 = y2 := ⟨_, rfl⟩
    have E9 : bits .or .i64 (y0 : Int) (y1 : Int) = (y2 : Int) := by
      rw [i64_or_nat y0 y1 (by omega) (by omega), ← hy2]
      have := or_add y1 x0 16 (by show y1 < 65536; omega)
      rw [show (2 : Nat) ^ 16 = 65536 by decide, hy0] at this
      rw [Nat.or_comm, this, Nat.add_comm]
    obtain ⟨N, hN⟩ : ∃ N, numJ l i 3 = N := ⟨_, rfl⟩
    have hNl := (numJ_lt l i).2.2
    have E13 : bits .or .i64 (y2 : Int) (x2 : Int) = (N : Int) := by
      rw [i64_or_nat y2 x2 (by omega) (by omega)]
      have h2 := HN.out
      have := or_add x2 (x0 * 256 + x1) 8 (by show x2 < 256; omega)
      rw [show (2 : Nat) ^ 8 = 256 by decide] at this
      have e : y2 = (x0 * 256 + x1) * 256 := by omega
      rw [e, Nat.or_comm, this]
      omega
    rw [hN] at hNl
    have HCW := Lib.hid (fun (W' : World) (h : Tb W') => pcw_any N W' hNl h)
    have HNN : Hid (numJ l i 3 = N) := hN
    clear hy0 hy1 hy2 hN
    refine wpAnyH_takeAt 1 17 (.pointer (some ⟨W.heap.size, 0, none⟩)) rfl rfl (by kernel_rfl) (by kernel_rfl) (by kernel_rfl) (fun _ _ _ h => h) rfl ?_ hS.out ?_
    · rintro w ⟨s0, s1, s2⟩
      go_simp
      try with_reducible rfl
    simp only [List.setIfInBounds_toArray, List.set_cons_zero, List.set_cons_succ]
    refine wpAnyH_takeAt 2 18 (.int .u8 (x0 : Int)) rfl rfl (by kernel_rfl) (by kernel_rfl) (by kernel_rfl) (fun _ _ _ h => h) rfl ?_ hS.out ?_
    · rintro w ⟨s0, s1, s2⟩
      go_simp
      try with_reducible rfl
    simp only [List.setIfInBounds_toArray, List.set_cons_zero, List.set_cons_succ]
    refine wpAnyH_takeAt 3 19 (.int .i64 (x0 : Int)) rfl rfl (by kernel_rfl) (by kernel_rfl) (by kernel_rfl) (fun _ _ _ h => h) rfl ?_ hS.out ?_
    · rintro w ⟨s0, s1, s2⟩
      go_simp
      try with_reducible rfl
    simp only [List.setIfInBounds_toArray, List.set_cons_zero, List.set_cons_succ]
    refine wpAnyH_takeAt 4 20 (.int .i64 (y0 : Int)) rfl rfl (by kernel_rfl) (by kernel_rfl) (by kernel_rfl) (fun _ _ _ h => h) rfl ?_ hS.out ?_
    · rintro w ⟨s0, s1, s2⟩
      go_simp
      try with_reducible rfl
    simp only [List.setIfInBounds_toArray, List.set_cons_zero, List.set_cons_succ]
    refine wpAnyH_takeAt 5 21 (.pointer (some ⟨W.heap.size, 1, none⟩)) rfl rfl (by kernel_rfl) (by kernel_rfl) (by kernel_rfl) (fun _ _ _ h => h) rfl ?_ hS.out ?_
    · rintro w ⟨s0, s1, s2⟩
      go_simp
      try with_reducible rfl
    simp only [List.setIfInBounds_toArray, List.set_cons_zero, List.set_cons_succ]
    refine wpAnyH_takeAt 6 22 (.int .u8 (x1 : Int)) rfl rfl (by kernel_rfl) (by kernel_rfl) (by kernel_rfl) (fun _ _ _ h => h) rfl ?_ hS.out ?_
    · rintro w ⟨s0, s1, s2⟩
      go_simp
      try with_reducible rfl
    simp only [List.setIfInBounds_toArray, List.set_cons_zero, List.set_cons_succ]
    refine wpAnyH_takeAt 7 23 (.int .i64 (x1 : Int)) rfl rfl (by kernel_rfl) (by kernel_rfl) (by kernel_rfl) (fun _ _ _ h => h) rfl ?_ hS.out ?_
    · rintro w ⟨s0, s1, s2⟩
      go_simp
      try with_reducible rfl
    simp only [List.setIfInBounds_toArray, List.set_cons_zero, List.set_cons_succ]
    refine wpAnyH_takeAt 8 24 (.int .i64 (y1 : Int)) rfl rfl (by kernel_rfl) (by kernel_rfl) (by kernel_rfl) (fun _ _ _ h => h) rfl ?_ hS.out ?_
    · rintro w ⟨s0, s1, s2⟩
      go_simp
      try with_reducible rfl
    simp only [List.setIfInBounds_toArray, List.set_cons_zero, List.set_cons_succ]
    refine wpAnyH_takeAt 9 25 (.int .i64 (y2 : Int)) rfl rfl (by kernel_rfl) (by kernel_rfl) (by kernel_rfl) (fun _ _ _ h => h) rfl ?_ hS.out ?_
    · rintro w ⟨s0, s1, s2⟩
      go_simp
      try with_reducible rfl
    simp only [List.setIfInBounds_toArray, List.set_cons_zero, List.set_cons_succ]
    refine wpAnyH_takeAt 10 26 (.pointer (some ⟨W.heap.size, 2, none⟩)) rfl rfl (by kernel_rfl) (by kernel_rfl) (by kernel_rfl) (fun _ _ _ h => h) rfl ?_ hS.out ?_
    · rintro w ⟨s0, s1, s2⟩
      go_simp
      try with_reducible rfl
    simp only [List.setIfInBounds_toArray, List.set_cons_zero, List.set_cons_succ]
    refine wpAnyH_takeAt 11 27 (.int .u8 (x2 : Int)) rfl rfl (by kernel_rfl) (by kernel_rfl) (by kernel_rfl) (fun _ _ _ h => h) rfl ?_ hS.out ?_
    · rintro w ⟨s0, s1, s2⟩
      go_simp
      try with_reducible rfl
    simp only [List.setIfInBounds_toArray, List.set_cons_zero, List.set_cons_succ]
    refine wpAnyH_takeAt 12 28 (.int .i64 (x2 : Int)) rfl rfl (by kernel_rfl) (by kernel_rfl) (by kernel_rfl) (fun _ _ _ h => h) rfl ?_ hS.out ?_
    · rintro w ⟨s0, s1, s2⟩
      go_simp
      try with_reducible rfl
    simp only [List.setIfInBounds_toArray, List.set_cons_zero, List.set_cons_succ]
    refine wpAnyH_takeAt 13 29 (.int .i64 (N : Int)) rfl rfl (by kernel_rfl) (by kernel_rfl) (by kernel_rfl) (fun _ _ _ h => h) rfl ?_ hS.out ?_
    · rintro w ⟨s0, s1, s2⟩
      go_simp
      try with_reducible rfl
    simp only [List.setIfInBounds_toArray, List.set_cons_zero, List.set_cons_succ]
    clear E3 E4 E7 E8 E9 E12 E13
    have HC2 : Hid (Calls Tryd.prog 93 #[.int .i64 (N : Int)] W2.drew fun e w' => e = .returned (.int .u32 (encW N : Int)) ∧ ∃ n, w' = W2.drewN (1 + n)) := (HCW.out W2.drew HT2.out).mono fun e w' ⟨h1, n, h2⟩ => ⟨h1, n, by rw [h2, ← World.drewN_drewN]; rfl⟩
    have hv2 : Boxed W2 w1.heap.size 57 (.slice A2 (packF l K pre).length c2) := (hb2.block _ hv.lt).trans hv
    have hb3 : ∀ n, Below W.heap.size W (W2.drewN (1 + n)) := fun n => below_drewN hb2 _
    have hlk : w1.heap.size < W.heap.size := hv.lt
    have hSA : ∀ n, Hid (((W2.drewN (1 + n)).alloc (.cells #[.int .u32 (encW N : Int)] 59)).cell? ⟨W.heap.size, 0, none⟩ = some (.int .u8 (x0 : Int)) ∧ ((W2.drewN (1 + n)).alloc (.cells #[.int .u32 (encW N : Int)] 59)).cell? ⟨W.heap.size, 1, none⟩ = some (.int .u8 (x1 : Int)) ∧ ((W2.drewN (1 + n)).alloc (.cells #[.int .u32 (encW N : Int)] 59)).cell? ⟨W.heap.size, 2, none⟩ = some (.int .u8 (x2 : Int))) := by
      intro n
      have hlt : W.heap.size < (W2.drewN (1 + n)).heap.size := (Array.getElem?_eq_some_iff.1 HR2.out).1
      have hal := alloc_below (W2.drewN (1 + n)) (.cells #[.int .u32 (encW N : Int)] 59)
      exact ⟨(hal.cell (p := ⟨W.heap.size, 0, none⟩) hlt).trans hS.out.1, (hal.cell (p := ⟨W.heap.size, 1, none⟩) hlt).trans hS.out.2.1, (hal.cell (p := ⟨W.heap.size, 2, none⟩) hlt).trans hS.out.2.2⟩
    have hlt3 : ∀ n, W.heap.size < (W2.drewN (1 + n)).heap.size := fun n => (Array.getElem?_eq_some_iff.1 HR2.out).1
    have hOW : ∀ n, Hid (OW ((W2.drewN (1 + n)).alloc (.cells #[.int .u32 (encW N : Int)] 59)) w.heap.size (.slice A2 (packF l K pre).length c2) (packF l K pre)) := fun n =>
      OW.later (l := packF l K pre) hrow ((hb3 n).trans ((alloc_below _ _).mono (hb3 n).size))
    have hSZ : ∀ n, Hid (w.heap.size ≤ ((W2.drewN (1 + n)).alloc (.cells #[.int .u32 (encW N : Int)] 59)).heap.size) := fun n => by
      have h1 := hB.size
      have h2 := (hb3 n).size
      show _ ≤ _
      rw [alloc_size]
      omega
    have HPL : (packF l K pre).length ≤ 10000000 := by
      have : (packF l K pre).length = pre.length := by simp [packF]
      omega
    have hBt : ∀ n w4, ((W2.drewN (1 + n)).alloc (.cells #[.int .u32 (encW N : Int)] 59)).grownBy w4 (Value.ownBlock (.slice A2 (packF l K pre).length c2)) → ∀ k, w4.cell? ⟨W.heap.size, k, none⟩ = W2.cell? ⟨W.heap.size, k, none⟩ := by
      intro n w4 hg4 k
      have hal : ((W2.drewN (1 + n)).alloc (.cells #[.int .u32 (encW N : Int)] 59)).heap[W.heap.size]? = some (.cells (p3 l i).toArray 150 (0, 0)) := ((alloc_below (W2.drewN (1 + n)) _).block _ (hlt3 n)).trans HR2.out
      have hb4 := (hg4.block W.heap.size (by rw [alloc_size]; exact Nat.lt_succ_of_lt (hlt3 n)) (row_ne (hOW n).out hal (by decide))).trans hal
      rw [cell_of_row w4 _ k _ 150 (0, 0) hb4, cell_of_row W2 _ k _ 150 (0, 0) HR2.out]
    have hS4 : ∀ n w4, ((W2.drewN (1 + n)).alloc (.cells #[.int .u32 (encW N : Int)] 59)).grownBy w4 (Value.ownBlock (.slice A2 (packF l K pre).length c2)) → Hid (w4.cell? ⟨W.heap.size, 0, none⟩ = some (.int .u8 (x0 : Int)) ∧ w4.cell? ⟨W.heap.size, 1, none⟩ = some (.int .u8 (x1 : Int)) ∧ w4.cell? ⟨W.heap.size, 2, none⟩ = some (.int .u8 (x2 : Int))) := fun n w4 hg4 =>
      ⟨(hBt n w4 hg4 0).trans hS.out.1, (hBt n w4 hg4 1).trans hS.out.2.1, (hBt n w4 hg4 2).trans hS.out.2.2⟩
    have hBX : ∀ n w4, ((W2.drewN (1 + n)).alloc (.cells #[.int .u32 (encW N : Int)] 59)).grownBy w4 (Value.ownBlock (.slice A2 (packF l K pre).length c2)) → Hid (w4.cell? ⟨w1.heap.size, 0, none⟩ = some (.slice A2 (packF l K pre).length c2) ∧ w4.frozen? ⟨w1.heap.size, 0, none⟩ = false) := by
      intro n w4 hg4
      have hv3 : Boxed (W2.drewN (1 + n)) w1.heap.size 57 (.slice A2 (packF l K pre).length c2) := hv2
      have hv4 := (hv3.alloc (.cells #[.int .u32 (encW N : Int)] 59)).kept hg4 ((hv3.alloc _).not_row (by decide) (hOW n).out)
      exact ⟨hv4.cell, hv4.frozen⟩
    have hS5 : ∀ n w4, ((W2.drewN (1 + n)).alloc (.cells #[.int .u32 (encW N : Int)] 59)).grownBy w4 (Value.ownBlock (.slice A2 (packF l K pre).length c2)) → ∀ u, Hid ((w4.setCell ⟨w1.heap.size, 0, none⟩ u).cell? ⟨W.heap.size, 0, none⟩ = some (.int .u8 (x0 : Int)) ∧ (w4.setCell ⟨w1.heap.size, 0, none⟩ u).cell? ⟨W.heap.size, 1, none⟩ = some (.int .u8 (x1 : Int)) ∧ (w4.setCell ⟨w1.heap.size, 0, none⟩ u).cell? ⟨W.heap.size, 2, none⟩ = some (.int .u8 (x2 : Int))) := by
      intro n w4 hg4 u
      have h4 := (hS4 n w4 hg4).out
      have hne : W.heap.size ≠ w1.heap.size := by omega
      exact ⟨(far_set w4 u hne).trans h4.1, (far_set w4 u hne).trans h4.2.1, (far_set w4 u hne).trans h4.2.2⟩
    have hQ2 : ∀ n, Hid ((W2.drewN (1 + n)).cell? ⟨w1.heap.size, 0, none⟩ = some (.slice A2 (packF l K pre).length c2)) := fun n => hvc2
    have hQA : ∀ n, Hid (((W2.drewN (1 + n)).alloc (.cells #[.int .u32 (encW N : Int)] 59)).cell? ⟨w1.heap.size, 0, none⟩ = some (.slice A2 (packF l K pre).length c2)) := fun n =>
      ((alloc_below (W2.drewN (1 + n)) _).cell (p := ⟨w1.heap.size, 0, none⟩) (Nat.lt_trans hlk (hlt3 n))).trans hvc2
    have hEND := fun n (g cap' : Nat) w4 (hown4 : OW w4 w.heap.size (.slice (some ⟨g, 0, none⟩) ((packF l K pre).length + 1) cap') (packF l K pre ++ [encW N])) (hg4 : ((W2.drewN (1 + n)).alloc (.cells #[.int .u32 (encW N : Int)] 59)).grownBy w4 (Value.ownBlock (.slice A2 (packF l K pre).length c2))) =>
      pack_end (Bs := w1.heap.size + 1) (Bn := w1.heap.size + 1 + 1) (B := W0.heap.size) (hb3 n) hv hrow hB (Nat.le_refl _) hs1 (by omega) (by omega) hown4 hg4
    have HE := Lib.hid hEND
    have HPF : Hid (packF l K (pre ++ [x]) = packF l K pre ++ [encW N]) := by show _ = _; rw [packF_snoc, EI.out, HNN.out]
    clear hEND hBt hlt3
    refine wpAnyH_two (i := 0) (k := 14) (by kernel_rfl) rfl rfl rfl rfl ?_ ?_
    · intro Kx hKx
      go_simp
      refine hKx _ _ hS.out ?_
      clear hKx Kx
      try simp only [Act.put, List.setIfInBounds_toArray, List.set_cons_zero, List.set_cons_succ]
      refine wpAnyH_one (i := 14) (by kernel_rfl) rfl rfl ?_
      intro Kx hKx
      go_simp
      refine HC2.out.mono ?_
      rintro e w' ⟨rfl, n, rfl⟩
      dsimp only
      refine hKx _ _ hS.out ?_
      clear hKx Kx
      try simp only [Act.put, List.setIfInBounds_toArray, List.set_cons_zero, List.set_cons_succ]
      refine wpAnyH_one (i := 15) (by kernel_rfl) rfl rfl ?_
      intro Kx hKx
      go_simp
      refine hKx _ _ (hSA n).out ?_
      clear hKx Kx
      try simp only [Act.put, List.setIfInBounds_toArray, List.set_cons_zero, List.set_cons_succ]
      refine wpAnyH_one (i := 16) (by kernel_rfl) rfl rfl ?_
      intro Kx hKx
      refine wp_app1WG _ _ rfl w.heap.size _ (packF l K pre) (encW N) (W2.drewN (1 + n)).heap.size rfl rfl (hOW n).out (heap_alloc_new _ _) HPL (hSZ n).out ?_
      intro g cap' w4 hown4 hg4
      refine hKx _ _ (hS4 n w4 hg4).out ?_
      clear hKx Kx
      try simp only [Act.put, List.setIfInBounds_toArray, List.set_cons_zero, List.set_cons_succ]
      refine wpAnyH_one (i := 17) (by kernel_rfl) rfl rfl ?_
      intro Kx hKx
      obtain ⟨c5, f5⟩ := (hBX n w4 hg4).out
      go_simp
      refine hKx _ _ (hS5 n w4 hg4 _).out ?_
      clear hKx Kx
      try simp only [Act.put, List.setIfInBounds_toArray, List.set_cons_zero, List.set_cons_succ]
      refine wpAnyH_done (by kernel_rfl) ?_ _
      have e5 := HE.out n g cap' w4 hown4 hg4
      rw [← HPF.out] at e5
      exact ⟨e5.1, e5.2.1, e5.2.2.1, e5.2.2.2⟩
    · intro Kx hKx
      go_simp
      refine HC2.out.mono ?_
      rintro e w' ⟨rfl, n, rfl⟩
      dsimp only
      refine hKx _ _ hS.out ?_
      clear hKx Kx
      try simp only [Act.put, List.setIfInBounds_toArray, List.set_cons_zero, List.set_cons_succ]
      refine wpAnyH_two (i := 0) (k := 15) (by kernel_rfl) rfl rfl rfl rfl ?_ ?_
      · intro Kx hKx
        have hq := (hQ2 n).out
        go_simp
        refine hKx _ _ hS.out ?_
        clear hKx Kx hq
        try simp only [Act.put, List.setIfInBounds_toArray, List.set_cons_zero, List.set_cons_succ]
        refine wpAnyH_one (i := 15) (by kernel_rfl) rfl rfl ?_
        intro Kx hKx
        go_simp
        refine hKx _ _ (hSA n).out ?_
        clear hKx Kx
        try simp only [Act.put, List.setIfInBounds_toArray, List.set_cons_zero, List.set_cons_succ]
        refine wpAnyH_one (i := 16) (by kernel_rfl) rfl rfl ?_
        intro Kx hKx
        refine wp_app1WG _ _ rfl w.heap.size _ (packF l K pre) (encW N) (W2.drewN (1 + n)).heap.size rfl rfl (hOW n).out (heap_alloc_new _ _) HPL (hSZ n).out ?_
        intro g cap' w4 hown4 hg4
        refine hKx _ _ (hS4 n w4 hg4).out ?_
        clear hKx Kx
        try simp only [Act.put, List.setIfInBounds_toArray, List.set_cons_zero, List.set_cons_succ]
        refine wpAnyH_one (i := 17) (by kernel_rfl) rfl rfl ?_
        intro Kx hKx
        obtain ⟨c5, f5⟩ := (hBX n w4 hg4).out
        go_simp
        refine hKx _ _ (hS5 n w4 hg4 _).out ?_
        clear hKx Kx
        try simp only [Act.put, List.setIfInBounds_toArray, List.set_cons_zero, List.set_cons_succ]
        refine wpAnyH_done (by kernel_rfl) ?_ _
        have e5 := HE.out n g cap' w4 hown4 hg4
        rw [← HPF.out] at e5
        exact ⟨e5.1, e5.2.1, e5.2.2.1, e5.2.2.2⟩
      · intro Kx hKx
        go_simp
        refine hKx _ _ (hSA n).out ?_
        clear hKx Kx
        try simp only [Act.put, List.setIfInBounds_toArray, List.set_cons_zero, List.set_cons_succ]
        refine wpAnyH_one (i := 0) (by kernel_rfl) rfl rfl ?_
        intro Kx hKx
        have hq := (hQA n).out
        go_simp
        refine hKx _ _ (hSA n).out ?_
        clear hKx Kx hq
        try simp only [Act.put, List.setIfInBounds_toArray, List.set_cons_zero, List.set_cons_succ]
        refine wpAnyH_one (i := 16) (by kernel_rfl) rfl rfl ?_
        intro Kx hKx
        refine wp_app1WG _ _ rfl w.heap.size _ (packF l K pre) (encW N) (W2.drewN (1 + n)).heap.size rfl rfl (hOW n).out (heap_alloc_new _ _) HPL (hSZ n).out ?_
        intro g cap' w4 hown4 hg4
        refine hKx _ _ (hS4 n w4 hg4).out ?_
        clear hKx Kx
        try simp only [Act.put, List.setIfInBounds_toArray, List.set_cons_zero, List.set_cons_succ]
        refine wpAnyH_one (i := 17) (by kernel_rfl) rfl rfl ?_
        intro Kx hKx
        obtain ⟨c5, f5⟩ := (hBX n w4 hg4).out
        go_simp
        refine hKx _ _ (hS5 n w4 hg4 _).out ?_
        clear hKx Kx
        try simp only [Act.put, List.setIfInBounds_toArray, List.set_cons_zero, List.set_cons_succ]
        refine wpAnyH_done (by kernel_rfl) ?_ _
        have e5 := HE.out n g cap' w4 hown4 hg4
        rw [← HPF.out] at e5
        exact ⟨e5.1, e5.2.1, e5.2.2.1, e5.2.2.2⟩
  case done =>
    rintro D ys W hD hys ⟨⟨v, hv, hrow, _⟩, hB⟩ hKD
    obtain ⟨A2, c2, rfl⟩ := OW.value (l := packF l K ys) hrow
    have c1 := hv.cell
    have HY := Lib.hid (packF_all l K ys hys)
    go_wp2
    refine ⟨by simp, .inl ⟨_, _, rfl, run_takeDeferred hKD, ?_⟩⟩
    refine ⟨_, results_tmp rfl _ _ _, _, rfl, ?_, hB.trans (belowK_b (w := w) (Nat.le_refl _) W D _ _ (by have := q7.size; omega) hKD rfl rfl)⟩
    have h2 : OW (W.putObj D (.deferred none)) w.heap.size (.slice A2 (packF l K ys).length c2) (packF l K ys) := ownsRow_putObj hrow _ hKD rfl
    have e : packL l = packF l K ys := by rw [HY.out, packL, HKK.out]
    rw [e]
    exact h2
  case stop =>
    rintro D c pre W _ _ h _
    exact h.elim

set_option maxRecDepth 100000 in
set_option maxHeartbeats 1600000 in
theorem ppack_zero (A : Option Addr) (cap : Nat) (w : World) (hmax : cap ≤ maxLen) : Calls Tryd.prog 79 #[.slice A 0 cap] w (PackR [] w) := by
  refine (callsIn_wide (n := 9)).1 ?_
  refine callsIn_of_wp_marks Tryd.func79 rfl trivial ?_ rfl
  simp only [Tryd.ntmps79, List.size_toArray, List.length_cons, List.length_nil, Nat.reduceAdd, Nat.reduceSub, Array.replicate_succ, Array.replicate_zero, List.push_toArray, List.append_toArray, List.nil_append, List.cons_append]
  refine wpIn_wide.2 ?_
  have HW : Hid (∀ W, Calls Tryd.prog 91 #[.int .i64 0] W fun e W' => e = .returned (.int .i64 0) ∧ W = W') := fun W => pwords_any 0 W (by omega) (by omega)
  go_wp2_with (first
    | (go_at_call 91; refine (HW.out _).mono ?_; rintro e w' ⟨rfl, rfl⟩)
    | (at_make; refine wpList_mk0W rfl _ _ rfl .i64 .i64 _ 0 rfl rfl rfl (by omega) ?_; intro w1 hown1 hb1)
    | (go_at_call 92; refine (callsIn_wide.1 (chunk_in 3 _ _ _ _)).mono ?_; rintro e w' ⟨rfl, rfl⟩))
  have hs1 := hb1.size
  obtain ⟨W0, hW0⟩ : ∃ W0, (((w1.alloc (.cells #[.slice (some ⟨w.heap.size, 0, none⟩) 0 0] 57)).alloc (.cells #[.slice A 0 cap] 39)).alloc (.cells #[.int .i64 3] 3)) = W0 := ⟨_, rfl⟩
  have q1 : Boxed W0 w1.heap.size 57 (.slice (some ⟨w.heap.size, 0, none⟩) 0 0) := by rw [← hW0]; exact ((Boxed.new w1 57 _).alloc _).alloc _
  have q2 : Boxed W0 (w1.heap.size + 1) 39 (.slice A 0 cap) := by
    have := (Boxed.new (w1.alloc (.cells #[.slice (some ⟨w.heap.size, 0, none⟩) 0 0] 57)) 39 (.slice A 0 cap)).alloc (.cells #[.int .i64 3] 3)
    rw [alloc_size, hW0] at this
    exact this
  have q4 : Below w1.heap.size w1 W0 := by rw [← hW0]; exact ((alloc_below _ _).alloc (by simp) _).alloc (by simp; omega) _
  have q6 : OW W0 w.heap.size (.slice (some ⟨w.heap.size, 0, none⟩) 0 0) [] := hown1.later q4
  have q7 : Below w.heap.size w W0 := hb1.trans (q4.mono hs1)
  rw [hW0]
  clear hW0 q4 hown1
  refine wpIn_wide.1 (wpIn_rangeFunc_ownG (F := Fence.wide) (n := 9) rfl (by omega) (gf := 103) (lb := #[.pointer (some ⟨w1.heap.size + 1, 0, none⟩), .pointer (some ⟨w1.heap.size + 1 + 1, 0, none⟩)]) rfl trivial (enters_of Tryd.func103 (by kernel_rfl) rfl)
    (chunk_stops0 7 (w1.heap.size + 1) (w1.heap.size + 1 + 1) w.heap.size cap A W0 q2) KpC.trans (KpC.block q7.size) (Below.refl _ _) (fun _ => rfl)
    (fun pre W => (∃ v, Boxed W w1.heap.size 57 v ∧ W.ownsRow w.heap.size 59 1 v (packF [] 0 pre).length ((packF [] 0 pre).map wv) ∧ True) ∧ Below w.heap.size w W) (fun _ _ _ => False)
    (OwnFrom.and (Own.from (holdsRow_own w.heap.size w1.heap.size 57 59 1 (fun pre => (packF [] 0 pre).length) (fun pre => (packF [] 0 pre).map wv) (fun _ _ => True)) _) (ownFrom_below (Nat.le_refl _) q7.size))
    (fun _ _ _ _ _ hs _ _ => hs)
    ⟨⟨_, q1, q6, trivial⟩, q7⟩
    (fun x => x.elim0) ?assign ?body ?done ?stop)
  case assign => exact fun l x => x.elim0
  case body => exact fun l pre x => x.elim0
  case done =>
    rintro D ys W hD hys ⟨⟨v, hv, hrow, _⟩, hB⟩ hKD
    obtain ⟨A2, c2, rfl⟩ := OW.value (l := packF [] 0 ys) hrow
    have c1 := hv.cell
    have HY := Lib.hid (packF_all [] 0 ys hys)
    go_wp2
    refine ⟨by simp, .inl ⟨_, _, rfl, run_takeDeferred hKD, ?_⟩⟩
    refine ⟨_, results_tmp rfl _ _ _, _, rfl, ?_, hB.trans (belowK_b (w := w) (Nat.le_refl _) W D _ _ (by have := q7.size; omega) hKD rfl rfl)⟩
    have h2 : OW (W.putObj D (.deferred none)) w.heap.size (.slice A2 (packF [] 0 ys).length c2) (packF [] 0 ys) := ownsRow_putObj hrow _ hKD rfl
    have e : packL [] = packF [] 0 ys := by rw [HY.out]; rfl
    rw [e]
    exact h2
  case stop =>
    rintro D c pre W _ _ h _
    exact h.elim

theorem ppack_any (l : List UInt8) (v : Value) (w : World) (h : SL w w.heap.size v l) (hl : l.length ≤ 10000) (hT : Tb w) : Calls Tryd.prog 79 #[v] w (PackR l w) := by
  obtain ⟨A, c, rfl, h1, h2, h3⟩ := h
  rcases Nat.eq_zero_or_pos l.length with h0 | h0
  · obtain rfl : l = [] := List.eq_nil_of_length_eq_zero h0
    exact ppack_zero A c w h2
  · obtain ⟨b, o, rfl, hb, hc⟩ := h3 h0
    exact ppack_pos l b o c w hl h0 h1 h2 hb hc hT
end Go.Proofs.YtiholfpcndjliaaDoor
