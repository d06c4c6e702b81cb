/-
  An argument of type []api.TLV, as a list of trees.
-/
import Derived.Test.YtahnmnbjgbfeaaaWlkn
import Derived.Test.YtahnmnbjgbfeaaaWlke
import Derived.OpenShut
import Derived.Deep.Slices
import Derived.Deep.Strs
namespace Go.Proofs.Ytahnmnbjgbfeaaa
set_option linter.unusedVariables false
set_option linter.unusedSimpArgs false
open Go.ChangeShapes Go.WideShapes Go.ChangeAt Go.RowKit Go.Deep

theorem c58 : Try.prog.cellsOf 58 = 3 := by kernel_rfl
theorem c48 : Try.prog.cellsOf 48 = 1 := by kernel_rfl
theorem c22 : Try.prog.cellsOf 22 = 1 := by kernel_rfl
theorem c5 : Try.prog.cellsOf 5 = 1 := by kernel_rfl
theorem c3 : Try.prog.cellsOf 3 = 1 := by kernel_rfl

theorem TsAt.of {w : World} {B b : Nat} : ∀ (ts : List T) (o : Nat), (∀ (k : Nat) (h : k < ts.length), TAt w B b (o + k * 3) ts[k]) → TsAt w B b o ts
  | [], _, _ => by unfold TsAt; trivial
  | t :: ts, o, h => by
    unfold TsAt
    refine ⟨by have := h 0 (by simp); simp only [Nat.zero_mul, Nat.add_zero] at this; exact this, TsAt.of ts (o + 3) fun k hk => ?_⟩
    have := h (k + 1) (by simpa using hk)
    rw [show o + (k + 1) * 3 = o + 3 + k * 3 by omega] at this
    simpa using this

theorem open_bytes {H : Type} {enc : TypeId × Value → H} {W : World} {fuel : Nat} {v : Value} {x : DataW H × List MemPlace}
    (h : DataW.trod enc Try.prog W 0 (fun _ => true) true fuel 22 [v] = some x) : ∃ l : List UInt8, SL W W.heap.size v l := by
  rcases open_ints Try.underlying22 Try.underlying5 c5 h with ⟨hcs, _⟩ | ⟨x, l, c, zs, hcs, _, hl, hm, hz, hx, hcell, hwz⟩
  · simp only [List.cons.injEq, and_true] at hcs
    subst hcs
    exact ⟨[], SL.nil _ _ _ _ (Nat.zero_le _)⟩
  · simp only [List.cons.injEq, and_true] at hcs
    subst hcs
    simp only [if_true] at hz
    obtain ⟨m, hml, hms⟩ := row_sl W (some x) l c zs (.inr ⟨x, rfl, hl, hm, hz, hcell, hwz⟩)
    exact ⟨m, hms⟩

set_option maxRecDepth 100000 in
theorem open_tlv {H : Type} {enc : TypeId × Value → H} {W : World} : ∀ (s fuel : Nat) (v : Value) (x : DataW H × List MemPlace), SizeOf.sizeOf x.1 < s →
    DataW.trod enc Try.prog W 0 (fun _ => true) true fuel 48 [v] = some x → ∃ ts : List T, TL W W.heap.size v ts
  | 0, _, _, _, h, _ => absurd h (by omega)
  | s + 1, fuel, v, x, hs, h => by
    rcases open_slice Try.underlying48 h with ⟨hcs, _⟩ | ⟨a, len, cap, m, n, D, Pl, hcs, _, hl, hm, hmm, hx, hi⟩
    · simp only [List.cons.injEq, and_true] at hcs
      subst hcs
      exact ⟨[], TL.nil _ _ _ _ (Nat.zero_le _)⟩
    · simp only [List.cons.injEq, and_true] at hcs
      subst hcs
      simp only [if_true] at hmm
      subst hmm
      obtain ⟨b, o, sp⟩ := a
      rcases Nat.eq_zero_or_pos len with hz0 | hp0
      · subst hz0
        exact ⟨[], TL.nil _ _ _ _ hm⟩
      have hsp : sp = none := by
        obtain ⟨cs', h1, _⟩ := hi 0 (by omega)
        rw [c58] at h1
        obtain ⟨_, hlen, hcell⟩ := World.cells?_some h1
        have e0 := hcell 0 (by omega)
        rw [show cs'[0]? = some cs'[0] from List.getElem?_eq_getElem (by omega)] at e0
        exact World.cell?_spot (by simpa [Addr.add] using e0)
      subst hsp
      have each : ∀ i, i < len → ∃ t : T, b < W.heap.size ∧ TAt W W.heap.size b (o + i * 3) t := by
        intro i hil
        obtain ⟨cs', h1, h2⟩ := hi i (by omega)
        rw [c58] at h1
        obtain ⟨_, hlen, hcell⟩ := World.cells?_some h1
        obtain ⟨y0, y1, y2, k, hy, _, q0, q1, q2⟩ := trod_struct3 Try.underlying58 h2
        match cs', hlen with
        | [v0, v1, v2], _ =>
          have e0 := hcell 0 (by omega)
          have e1 := hcell 1 (by omega)
          have e2 := hcell 2 (by omega)
          simp only [addr_add, Nat.add_zero] at e0 e1 e2
          have hblk := World.block_lt_of_cell? W _ e0
          simp [c3, c22, c48] at q0 q1 q2
          obtain ⟨z, hz, _⟩ := DataW.trod_int Try.underlying3 q0
          simp only [List.cons.injEq, and_true] at hz
          subst hz
          obtain ⟨l, hl1⟩ := open_bytes q1
          have hmem : D i ∈ (List.range len).map D := List.mem_map.2 ⟨i, List.mem_range.2 hil, rfl⟩
          have hsz : SizeOf.sizeOf y2.1 < s := by
            have a1 := List.sizeOf_lt_of_mem hmem
            have a2 : SizeOf.sizeOf y2.1 < SizeOf.sizeOf (D i) := by
              simp only [Prod.mk.injEq] at hy
              rw [hy.1]
              simp
              omega
            rw [hx] at hs
            simp at hs
            omega
          obtain ⟨ts, hts⟩ := open_tlv s k v2 y2 hsz q2
          exact ⟨.mk z l ts, hblk, TAt.make e0 ⟨v1, e1, hl1⟩ ⟨v2, e2, hts⟩⟩
      haveI : Inhabited T := ⟨T.zero⟩
      obtain ⟨f, hf⟩ := choose_lt (α := T) (p := fun i t => b < W.heap.size ∧ TAt W W.heap.size b (o + i * 3) t) each
      have hlen : ((List.range len).map f).length = len := by simp
      refine ⟨(List.range len).map f, some ⟨b, o, none⟩, _, by rw [hlen], by omega, hm, fun hp => ?_⟩
      rw [hlen] at hp
      obtain ⟨r2, _⟩ := hf 0 hp
      refine ⟨b, o, rfl, r2, TsAt.of _ _ fun k hk => ?_⟩
      rw [hlen] at hk
      have := (hf k hk).2
      simpa using this
end Go.Proofs.Ytahnmnbjgbfeaaa
