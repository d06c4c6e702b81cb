/-
  Bytes that came in.
-/
import Derived.Test.YtjkbfogjfgnhiaaDoorFrn
namespace Go.Proofs.YtjkbfogjfgnhiaaDoor
set_option linter.unusedVariables false
set_option linter.unusedSimpArgs false
open Go.ChangeShapes Go.WideShapes Go.ChangeAt Go.RowKit Go.Deep

theorem obC5 : Tryd.prog.cellsOf 5 = 1 := by kernel_rfl
theorem row_sl (w : World) (a : Option Addr) (len cap : Nat) (zs : List Int)
    (h : (a = none ∧ len = 0 ∧ cap = 0 ∧ zs = []) ∨ ∃ x, a = some x ∧ len ≤ cap ∧ cap ≤ maxLen ∧ zs.length = cap ∧ (∀ i, i < zs.length → w.cell? (x.add i) = some (.int .u8 (zs.getD i 0))) ∧ ∀ n ∈ zs, (Lit.int .u8 n).wf = true) :
    ∃ l : List UInt8, l.length = len ∧ SL w w.heap.size (.slice a len cap) l := by
  rcases h with ⟨rfl, rfl, rfl, rfl⟩ | ⟨x, rfl, h1, h2, h3, h4, h5⟩
  · exact ⟨[], rfl, SL.nil _ _ _ _ (Nat.zero_le _)⟩
  · have hlen : ((zs.take len).map fun n => UInt8.ofNat n.toNat).length = len := by simp; omega
    refine ⟨(zs.take len).map fun n => UInt8.ofNat n.toNat, hlen, some x, cap, by rw [hlen], by omega, h2, fun hp => ?_⟩
    rw [hlen] at hp
    obtain ⟨b, o, sp⟩ := x
    have h0 := h4 0 (by omega)
    have hsp : sp = none := World.cell?_spot (by simpa [Addr.add] using h0)
    subst hsp
    have hblk := World.block_lt_of_cell? w _ h0
    refine ⟨b, o, rfl, by simpa [Addr.add] using hblk, fun k hk => ?_⟩
    rw [hlen] at hk
    have hc := h4 k (by omega)
    rw [addr_add] at hc
    rw [hc]
    have hkz : k < zs.length := by omega
    have hwf := h5 zs[k] (List.getElem_mem hkz)
    have hb : 0 ≤ zs[k] ∧ zs[k] < 256 := by
      simp [Lit.wf, IntKind.min, IntKind.max, IntKind.signed, IntKind.bits] at hwf
      omega
    simp [List.getD, List.getElem?_map, List.getElem?_take, hk, List.getElem?_eq_getElem hkz]
    omega

theorem open_bytes {H : Type} {enc : TypeId × Value → H} {W : World} {fuel : Nat} {v : Value} {x : DataW H × List MemPlace}
    (h : DataW.trod enc Tryd.prog W 0 (fun _ => true) true fuel 42 [v] = some x) : ∃ l : List UInt8, SL W W.heap.size v l := by
  rcases open_ints Tryd.underlying42 Tryd.underlying5 obC5 h with ⟨hcs, _⟩ | ⟨x, l, c, zs, hcs, _, hl, hm, hz, hx, hcell, hwz⟩
  · simp only [List.cons.injEq, and_true] at hcs
    subst hcs
    exact ⟨[], SL.nil _ _ _ _ (Nat.zero_le _)⟩
  · simp only [List.cons.injEq, and_true] at hcs
    subst hcs
    simp only [if_true] at hz
    obtain ⟨m, hml, hms⟩ := row_sl W (some x) l c zs (.inr ⟨x, rfl, hl, hm, hz, hcell, hwz⟩)
    exact ⟨m, hms⟩

end Go.Proofs.YtjkbfogjfgnhiaaDoor
