/-
  P1.6: for every list of strings of bytes and every number the law OctetsPieces returns true and leaves its arguments as they were.
  No condition is added; the statement is the given one. The frame follows the guide's proof-skeleton program, the opening of the list of slices and the walk are the verifier's own.
-/
import Derived.Test.YtahnmnbjgbfeaaaRows
import Derived.WalkKit
import Derived.ProofKit
import Derived.OpenShut
import Derived.ShutString
import Derived.ChangeOld
import Derived.Below
import Derived.SizedLaws
import Derived.Deep.Slices
import Derived.Test.YtahnmnbjgbfeaaaWlke
namespace Go.Proofs.Ytahnmnbjgbfeaaa.octetsPieces
open Go.ChangeShapes Go.WideShapes Go.ChangeAt Go.RowKit Go.Deep
open Go.ChangeMaps (open_string shut_string)
set_option linter.unusedVariables false

theorem own : ownKnob Try.prog.godebug = none := by kernel_rfl
theorem laidOut : laidOutB Try.prog = true := by kernel_rfl
theorem cells22 : Try.prog.cellsOf 22 = 1 := by kernel_rfl
theorem cells5 : Try.prog.cellsOf 5 = 1 := by kernel_rfl
theorem bytes5 : Try.prog.bytesOf 5 = 1 := by kernel_rfl

theorem weights_all {H : Type} {P : Program} {e : TypeId} : ∀ {l : List (DataW H)} {d : DataW H}, d ∈ l → ∀ n ∈ d.weights P e, n ∈ DataW.weightsAll P e l
  | x :: r, d, h, n, hn => by
    simp only [DataW.weightsAll, List.mem_append]
    rcases List.mem_cons.1 h with rfl | h
    · exact .inl hn
    · exact .inr (weights_all h n hn)

/-- A slice of bytes within a list: as a list of bytes, and within the reach. -/
theorem inner {H : Type} {enc : TypeId × Value → H} {W : World} {fuel : Nat} {v : Value} {d : DataW H} {pl : List MemPlace}
    (h : DataW.trod enc Try.prog W 0 (fun _ => true) true fuel 22 [v] = some (d, pl)) (hw : ∀ n ∈ d.weights Try.prog 22, n ≤ reachBytes) :
    ∃ l : List UInt8, SL W W.heap.size v l ∧ l.length ≤ 140737488351232 := by
  rcases open_ints Try.underlying22 Try.underlying5 cells5 h with ⟨hcs, _⟩ | ⟨x, l, c, zs, hcs, _, hl, hm, hz, hx, hcell, hwz⟩
  · simp only [List.cons.injEq, and_true] at hcs
    subst hcs
    exact ⟨[], SL.nil _ _ _ _ (Nat.zero_le _), by simp⟩
  · simp only [List.cons.injEq, and_true] at hcs
    subst hcs
    simp only [if_true] at hz
    obtain ⟨m, hml, hms⟩ := row_sl W (some x) l c zs (.inr ⟨x, rfl, hl, hm, hz, hcell, hwz⟩)
    refine ⟨m, hms, ?_⟩
    simp only [Prod.mk.injEq] at hx
    have := hw (((lits .u8 (zs.take l) : List (DataW H)).length + (lits .u8 (zs.drop l) : List (DataW H)).length) * Try.prog.bytesOf 5) (by
      rw [hx.1]
      simp [DataW.weights, Try.underlying22])
    rw [bytes5, Nat.mul_one] at this
    have e1 : (lits .u8 (zs.take l) : List (DataW H)).length = (zs.take l).length := by simp [lits]
    have e2 : (lits .u8 (zs.drop l) : List (DataW H)).length = (zs.drop l).length := by simp [lits]
    rw [e1, e2, List.length_take, List.length_drop] at this
    have hr : reachBytes = 140737488351232 := by decide
    omega

theorem outer {H : Type} {enc : TypeId × Value → H} {W : World} {fuel : Nat} {a0 : Option Addr} {len0 cap0 : Nat} {d : DataW H} {pl : List MemPlace}
    (h : DataW.trod enc Try.prog W 0 (fun _ => true) true fuel 40 [.slice a0 len0 cap0] = some (d, pl)) (hw : ∀ n ∈ d.weights Try.prog 40, n ≤ reachBytes) :
    ∃ ls : List (List UInt8), LL W W.heap.size (.slice a0 len0 cap0) ls ∧ ∀ k, k < ls.length → (ls.getD k []).length ≤ 140737488351232 := by
  rcases open_slice1 Try.underlying40 cells22 h with ⟨hcs, _⟩ | ⟨a, len, cap, m, n, V, D, Pl, hcs, _, hl, hm, hmm, hx, hi⟩
  · simp only [List.cons.injEq, and_true, Value.slice.injEq] at hcs
    obtain ⟨rfl, rfl, rfl⟩ := hcs
    exact ⟨[], nilLL W, fun k hk => absurd hk (by simp)⟩
  · simp only [List.cons.injEq, and_true, Value.slice.injEq] at hcs
    obtain ⟨rfl, rfl, rfl⟩ := hcs
    simp only [if_true] at hmm
    subst hmm
    simp only [Prod.mk.injEq] at hx
    have hin : ∀ i, i < len0 → ∃ l : List UInt8, SL W W.heap.size (V i) l ∧ l.length ≤ 140737488351232 := fun i hil =>
      inner (hi i (by omega)).2 (fun y hy => hw y (by
        rw [hx.1]
        simp only [DataW.weights, Try.underlying40]
        refine List.mem_cons_of_mem _ (List.mem_append.2 (.inl (weights_all (List.mem_map.2 ⟨i, List.mem_range.2 hil, rfl⟩) y hy))))) 
    obtain ⟨f, hf⟩ := choose_lt (α := List UInt8) (p := fun i l => SL W W.heap.size (V i) l ∧ l.length ≤ 140737488351232) hin
    have hlen : ((List.range len0).map f).length = len0 := by simp
    have hgl : ∀ k, k < len0 → ((List.range len0).map f).getD k [] = f k := fun k hk => by simp [List.getD, hk]
    have hgv : ∀ k, k < len0 → ((List.range len0).map V).getD k (.slice none 0 0) = V k := fun k hk => by simp [List.getD, hk]
    refine ⟨(List.range len0).map f, ⟨some a, m, (List.range len0).map V, by rw [hlen], by omega, hm, by simp, fun hp => ?_, fun k hk => ?_⟩, fun k hk => ?_⟩
    · rw [hlen] at hp
      obtain ⟨b, o, sp⟩ := a
      have h0 := (hi 0 (by omega)).1
      have hsp : sp = none := World.cell?_spot (by simpa [Addr.add] using h0)
      subst hsp
      have hblk := World.block_lt_of_cell? W _ h0
      refine ⟨b, o, rfl, by simpa [Addr.add] using hblk, fun k hk => ?_⟩
      rw [hlen] at hk
      rw [hgv k hk, ← addr_add]
      exact (hi k (by omega)).1
    · rw [hlen] at hk
      rw [hgv k hk, hgl k hk]
      exact (hf k hk).1
    · rw [hlen] at hk
      rw [hgl k hk]
      exact (hf k hk).2

set_option maxRecDepth 100000 in
theorem lifted (os : Os) (started : os.Started) (H : Type) (enc : TypeId × Value → H) :
    ReturnsInHanded {} Try.checked os 8 .any (Rows.octetsPiecesSpec.pre6 enc Try.prog Try.f8 Rows.octetsPiecesRow.domain false) (Rows.octetsPiecesSpec.post enc Try.prog Try.f8 false true false false) := by
  refine returnsInHanded_of_change_sized (C := Try.checked) own started (by kernel_rfl) Try.func8
    (ChangeSpec.witness6 (enc := enc) (C := Try.checked) false ⟨#[], #[.slice none 0 0, .int .i64 0], []⟩ 8 (by kernel_rfl) (by kernel_rfl) (by kernel_rfl) (by kernel_rfl)) ?_
  intro W base args ds gs before hval0 hW hcnd hsz0 _
  have hsz : (DataW.weightsEach Try.prog (Try.f8.params.toList ++ Rows.octetsPiecesSpec.plain.varTypes Try.prog) (ds ++ gs)).all (· ≤ reachBytes) = true := hsz0
  clear hsz0
  have hval : ∀ (j : Nat) t v, Try.f8.params[j]? = some t → args[j]? = some v → Value.okWide Try.prog W .any base t v := hval0
  have hW' := hW
  obtain ⟨p, q, hA0, hV, rfl, hfz, hnd⟩ := hW
  have hA : DataW.TrodAll enc Try.prog W 0 (fun _ => true) true Try.f8.params.toList args.toList ds p := hA0
  rw [Try.params8] at hA hval hsz
  obtain ⟨v0, vs0, d0, ds0, p0, q0, hargs, rfl, rfl, h0, r0⟩ := trodAll_cons hA
  obtain ⟨v1, vs1, d1, ds1, p1, q1, rfl, rfl, rfl, h1, r1⟩ := trodAll_cons r0
  obtain ⟨rfl, rfl, rfl⟩ := trodAll_nil r1
  obtain rfl : args = #[v0, v1] := by cases args; simp_all
  obtain ⟨rfl, rfl⟩ := trodVars_none hV
  obtain ⟨a0, len0, cap0, rfl⟩ := okWide_slice Try.underlying40 (hval 0 40 v0 rfl rfl)
  have k0 := h0
  have lt0 : ∀ x ∈ p0, x.block < W.heap.size := by obtain ⟨m, hm⟩ := k0; exact DataW.trod_lt m _ _ _ hm
  have hw0 : ∀ n ∈ d0.weights Try.prog 40, n ≤ reachBytes := fun n hn => by
    have := List.all_eq_true.1 hsz _ (DataW.weights_mem_each (j := 0) (t := 40) (d := d0) rfl rfl n hn)
    simpa using this
  obtain ⟨ls, w0, wr⟩ : ∃ ls : List (List UInt8), LL W W.heap.size (.slice a0 len0 cap0) ls ∧ ∀ k, k < ls.length → (ls.getD k []).length ≤ 140737488351232 := by
    obtain ⟨fuel, hf⟩ := h0
    exact outer (fuel := fuel) (by simpa [Value.cells] using hf) hw0
  obtain ⟨a1, rfl, rfl, rfl, w1⟩ := open_int Try.underlying3 (hval 1 3 v1 rfl rfl) h1
  clear hA0 hval0
  refine (law_pieces ls _ a1 W w0 wr (bounds_i64 w1).2).mono fun e W' ⟨he, bel⟩ => ?_
  subst he
  exact ⟨_, rfl, _, _, _, [], _, [], hW', trodAll_mk1 (shut_bool Try.underlying4 _), (trodAll_cons_mk (Below.trod laidOut (by kernel_rfl) (of_decide_eq_true (by kernel_rfl)) k0 bel lt0) (trodAll_cons_mk (shut_int Try.underlying3 w1) trodAll_mk0)), rfl, bel.frame _, fun h => by cases h⟩

theorem over : Rows.octetsPiecesRow.holds Try.pinned (OpenSpec.ofChange Rows.octetsPiecesSpec) :=
  OpenClaim.holds_of_wide 8 Try.f8 rfl rfl rfl rfl rfl rfl rfl ⟨rfl, rfl, rfl, rfl, rfl⟩ rfl rfl rfl rfl rfl (by kernel_rfl) Try.func8 (by kernel_rfl)
    (of_decide_eq_true (by kernel_rfl)) (by unfold Func.isWrapper; first | (rw [if_pos (by decide +kernel)]; kernel_rfl) | (rw [if_neg (by decide +kernel)]; exact ⟨rfl, rfl⟩))
    (fun os started H enc _ => lifted os started H enc)

theorem proved : Rows.OctetsPiecesSaid := over
end Go.Proofs.Ytahnmnbjgbfeaaa.octetsPieces
