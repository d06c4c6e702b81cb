/-
  Slices of commands that came in.
-/
import Derived.Test.YtjoibonbmalbdaaFrm
import Derived.Test.YtjoibonbmalbdaaCml
namespace Go.Proofs.Ytjoibonbmalbdaa
set_option linter.unusedVariables false
set_option linter.unusedSimpArgs false
open Go.ChangeShapes Go.WideShapes Go.ChangeAt Go.RowKit Go.Deep

theorem choose_cm {p : Nat → Cm → Prop} {n : Nat} (h : ∀ i, i < n → ∃ t, p i t) : ∃ f : Nat → Cm, ∀ i, i < n → p i (f i) := by
  classical
  refine ⟨fun i => if hi : i < n then Classical.choose (h i hi) else default, fun i hi => ?_⟩
  simp only [dif_pos hi]
  exact Classical.choose_spec (h i hi)

set_option maxRecDepth 100000 in
theorem open_cmds {H : Type} {enc : TypeId × Value → H} {W : World} {fuel : Nat} {v : Value} {x : DataW H × List MemPlace}
    (h : DataW.trod enc Try.prog W 0 (fun _ => true) true fuel 53 [v] = some x) : ∃ l : List Cm, ML W W.heap.size v l ∧ ∀ c ∈ l, I64 c.le := by
  rcases open_slice Try.underlying53 h with ⟨hcs, _⟩ | ⟨a, len, cap, m, n, D, Pl, hcs, _, hl, hm, hmm, hx, hi⟩
  · simp only [List.cons.injEq, and_true] at hcs
    subst hcs
    exact ⟨[], ML.nil _ _ _ _ (Nat.zero_le _), fun c hc => by cases hc⟩
  · simp only [List.cons.injEq, and_true] at hcs
    subst hcs
    simp only [if_true] at hmm
    subst hmm
    obtain ⟨b, o, sp⟩ := a
    rcases Nat.eq_zero_or_pos len with hz0 | hp0
    · subst hz0
      exact ⟨[], ML.nil _ _ _ _ hm, fun c hc => by cases hc⟩
    have hsp : sp = none := by
      obtain ⟨cs', h1, _⟩ := hi 0 (by omega)
      rw [frC24] at h1
      obtain ⟨_, hlen, hcell⟩ := World.cells?_some h1
      have e0 := hcell 0 (by omega)
      rw [show cs'[0]? = some cs'[0] from List.getElem?_eq_getElem (by omega)] at e0
      exact World.cell?_spot (by simpa [Addr.add] using e0)
    subst hsp
    have each : ∀ i, i < len → ∃ c : Cm, b < W.heap.size ∧ CA W W.heap.size b (o + i * 7) c ∧ I64 c.le := by
      intro i hil
      obtain ⟨cs', h1, h2⟩ := hi i (by omega)
      rw [frC24] at h1
      obtain ⟨_, hlen, hcell⟩ := World.cells?_some h1
      obtain ⟨c, d, hcs, hd, _, _, _, _, hle⟩ := cmd_of_cells h2
      subst hcs
      have e0 := hcell 0 (by omega)
      have e1 := hcell 1 (by omega)
      have e2 := hcell 2 (by omega)
      have e3 := hcell 3 (by omega)
      have e4 := hcell 4 (by omega)
      have e5 := hcell 5 (by omega)
      have e6 := hcell 6 (by omega)
      simp only [addr_add, Nat.add_zero] at e0 e1 e2 e3 e4 e5 e6
      exact ⟨c, World.block_lt_of_cell? W _ e0, ⟨e0, e1, e2, e3, ⟨d, e4, hd⟩, e5, e6⟩, hle⟩
    obtain ⟨f, hf⟩ := choose_cm (p := fun i t => b < W.heap.size ∧ CA W W.heap.size b (o + i * 7) t ∧ I64 t.le) each
    have hlen : ((List.range len).map f).length = len := by simp
    refine ⟨(List.range len).map f, ⟨some ⟨b, o, none⟩, _, by rw [hlen], by omega, hm, fun hp => ?_⟩, fun c hc => ?_⟩
    · obtain ⟨r2, _⟩ := hf 0 hp0
      refine ⟨b, o, rfl, r2, fun k hk => ?_⟩
      rw [hlen] at hk
      have := (hf k hk).2.1
      simpa [List.getD, hk] using this
    · obtain ⟨i, hi2, rfl⟩ := List.mem_map.1 hc
      exact (hf i (List.mem_range.1 hi2)).2.2
end Go.Proofs.Ytjoibonbmalbdaa
