/-
  The walk of Clone.
-/
import Derived.Test.YtcojoohbhkhlnaaCew
namespace Go.Proofs.Ytcojoohbhkhlnaa
set_option linter.unusedVariables false
set_option linter.unusedSimpArgs false
open Go.RowKit

/-- copy of elements of two cells, into a row of the call's own. -/
theorem run_copy_two (w : World) (dT sT ty elem : TypeId) (g dLen dCap : Nat) (a : Addr) (sLen sCap : Nat) (cur : Array Value) (t : TypeId) (cs : List Value) (n : Nat)
    (hu : Try.prog.underlying dT = some (.slice elem)) (hs : (Try.prog.info? elem).map (·.size) = some 2)
    (hg : w.heap[g]? = some (.cells cur t (0, 0))) (hn : n = Nat.min sLen dLen) (hcs : cs.length = n * 2)
    (hsrc : ∀ j v, cs[j]? = some v → w.cell? (a.add j) = some v) (hfit : cs.length ≤ cur.size) (h1 : ∀ v ∈ cs, v.oneCell' = true) :
    (Builtin.copy_ #[dT, sT] ty #[.slice (some ⟨g, 0, none⟩) dLen dCap, .slice (some a) sLen sCap]).run Try.prog w =
      .ok (goInt n) (w.setRow g (cs ++ cur.toList.drop cs.length).toArray) := by
  have hl := run_loadCells_list (P := Try.prog) w a cs hsrc
  have hst := run_storeCells_at Try.prog g 0 t cs 0 cur w hg (by simpa using hfit) h1
  cases hq : Try.prog.info? elem with
  | none => simp [hq] at hs
  | some i =>
    have hi : i.size = 2 := by simpa [hq] using hs
    rw [hcs] at hl
    simp [Builtin.copy_, run_underlying hu, Builtin.lenOf, Builtin.firstCells, sizeOf, typeInfo, hq, hi, ← hn, hl, hst]

theorem wpList_copy_two {ops : Array Oper} {rest : List Oper} {o : Oper} {a : Act} {w : World} {Q : Exit → Act → World → Prop} (hgd : o.guard = none) (d s : Operand)
    (ho : o.op = .call { callee := .builtin .copy, args := #[d, s], argTypes := #[55, 55] }) (g n : Nat) (ad : Addr) (sCap : Nat) (cur : Array Value) (cs : List Value)
    (hd : a.eval d = .slice (some ⟨g, 0, none⟩) n n) (hs : a.eval s = .slice (some ad) n sCap) (hg : w.heap[g]? = some (.cells cur 67 (0, 0))) (hcs : cs.length = n * 2) (hcur : cur.size = n * 2)
    (hsrc : ∀ j v, cs[j]? = some v → w.cell? (ad.add j) = some v) (h1 : ∀ v ∈ cs, v.oneCell' = true)
    (h : wpList Try.prog ops Q rest (a.put o.dst (goInt n)) (w.setRow g cs.toArray)) : wpList Try.prog ops Q (o :: rest) a w :=
  wpList_plain hgd fun K hK => by
    have hr := run_copy_two w 55 55 o.type 67 g n n ad n sCap cur 67 cs n Try.underlying55 (by kernel_rfl) hg (by simp) hcs hsrc (by omega) h1
    rw [List.drop_eq_nil_of_le (by simp; omega), List.append_nil] at hr
    unfold Oper.wp execOp
    simp only [ho, resolve, invoke, builtin, Sem.run_bind, Sem.run_pure, Result.andThen_ok, List.map_toArray, List.map_cons, List.map_nil, hd, hs, hr]
    exact hK _ _ h

/-- The words' cells. -/
def wcell (s : St) (j : Nat) : Value := if j % 2 = 0 then .int .u32 ((s.ws.getD (j / 2) 0 : Nat) : Int) else .int .i64 ((s.wear.getD (j / 2) 0 : Nat) : Int)
def wcells (s : St) : List Value := (List.range (s.ws.length * 2)).map (wcell s)
theorem wcells_len (s : St) : (wcells s).length = s.ws.length * 2 := by simp [wcells]
theorem wcells_one (s : St) : ∀ v ∈ wcells s, v.oneCell' = true := by
  intro v hv
  obtain ⟨j, _, rfl⟩ := List.mem_map.1 hv
  unfold wcell
  split <;> rfl
theorem wcells_src {w : World} {b g lf : Nat} {s : St} (h : MA w b g s lf) : ∀ j v, (wcells s)[j]? = some v → w.cell? ((⟨g, 0, none⟩ : Addr).add j) = some v := by
  intro j v hv
  obtain ⟨hj, rfl⟩ := List.getElem?_eq_some_iff.1 hv
  have hj' : j < s.ws.length * 2 := by rw [wcells_len] at hj; exact hj
  rw [addr_add, Nat.zero_add]
  simp only [wcells, List.getElem_map, List.getElem_range, wcell]
  split
  · have := h.val (j / 2) (by omega)
    rw [show j / 2 * 2 = j by omega] at this
    exact this
  · have := h.wea (j / 2) (by omega)
    rw [show j / 2 * 2 + 1 = j by omega] at this
    exact this
theorem ma_of_cells {w : World} {b g lf : Nat} {s : St} (h1 : w.heap[b]? = some (.cells (mrow g s lf) 57 (0, 0))) (h2 : w.heap[g]? = some (.cells (wcells s).toArray 67 (0, 0))) (hne : b ≠ g) (hl : s.wear.length = s.ws.length) (hn1 : 1 ≤ s.ws.length) (hn2 : s.ws.length ≤ 65536) (hc : ∀ k, s.cut = some k → lf = k) : MA w b g s lf := by
  refine ⟨h1, fun a ha => ?_, fun a ha => ?_, fun j => frozen_of_row _ _ j _ _ h2, hne, (Array.getElem?_eq_some_iff.1 h1).1, (Array.getElem?_eq_some_iff.1 h2).1, hl, hn1, hn2, hc⟩
  · rw [cell_of_row _ _ (a * 2) _ _ _ h2]
    simp [wcells, wcell, show a * 2 < s.ws.length * 2 by omega]
  · rw [cell_of_row _ _ (a * 2 + 1) _ _ _ h2]
    simp [wcells, wcell, show a * 2 + 1 < s.ws.length * 2 by omega, show (a * 2 + 1) % 2 = 1 by omega, show (a * 2 + 1) / 2 = a by omega]

set_option maxRecDepth 100000 in
set_option maxHeartbeats 1600000 in
theorem clone_any {w : World} {b g lf : Nat} {s : St} (hm : MA w b g s lf) :
    Calls Try.prog 20 #[.pointer (some ⟨b, 0, none⟩)] w fun e w' => ∃ b' g', e = .returned (.pointer (some ⟨b', 0, none⟩)) ∧ MA w' b' g' s lf ∧ w.heap.size ≤ b' ∧ w.heap.size ≤ g' ∧ Below w.heap.size w w' := by
  have HM := Lib.hid (made_any hm)
  have HH := Lib.hid hm
  have hmk := fun W => mk_words W s.ws.length hm.n2
  have hltb := hm.ltb
  have n2 := hm.n2
  have c0 := cell_of_row _ _ 0 _ _ _ hm.row
  have c1 := cell_of_row _ _ 1 _ _ _ hm.row
  have c2 := cell_of_row _ _ 2 _ _ _ hm.row
  have c3 := cell_of_row _ _ 3 _ _ _ hm.row
  have c4 := cell_of_row _ _ 4 _ _ _ hm.row
  have c5 := cell_of_row _ _ 5 _ _ _ hm.row
  have c6 := cell_of_row _ _ 6 _ _ _ hm.row
  unfold mrow at c0 c1 c2 c3 c4 c5 c6
  obtain ⟨z, hz⟩ : ∃ z, z2 s.ws.length = z := ⟨_, rfl⟩
  rw [hz] at hmk
  have HZ := Lib.hid hz
  have HB1 := Lib.hid (below_new2 w (.cells #[.slice (some ⟨w.heap.size + 1, 0, none⟩) s.ws.length s.ws.length, .int .i64 (s.en : Int), .int .i64 (s.wr : Int), .int .i64 (s.cu : Int), .bool s.on, .bool s.cut.isSome, .int .i64 (lf : Int)] 57) (.cells z 67))
  have RA := Lib.hid (heap_new1 w #[.slice (some ⟨w.heap.size + 1, 0, none⟩) s.ws.length s.ws.length, .int .i64 (s.en : Int), .int .i64 (s.wr : Int), .int .i64 (s.cu : Int), .bool s.on, .bool s.cut.isSome, .int .i64 (lf : Int)] 57 (.cells z 67))
  have RG := Lib.hid (heap_new2 w (.cells #[.slice (some ⟨w.heap.size + 1, 0, none⟩) s.ws.length s.ws.length, .int .i64 (s.en : Int), .int .i64 (s.wr : Int), .int .i64 (s.cu : Int), .bool s.on, .bool s.cut.isSome, .int .i64 (lf : Int)] 57) z 67)
  clear hz hm
  go_enter Try.func20, Try.ntmps20
  go_wp2_with (go_at_call 31; refine HM.out.mono ?_; rintro e w' ⟨rfl, e⟩; have e := e.symm; subst e)
  generalize (w.alloc (.cells #[.slice (some ⟨w.heap.size + 1, 0, none⟩) s.ws.length s.ws.length, .int .i64 (s.en : Int), .int .i64 (s.wr : Int), .int .i64 (s.cu : Int), .bool s.on, .bool s.cut.isSome, .int .i64 (lf : Int)] 57)).alloc (.cells z 67) = w1 at *
  have a0 := cell_of_row _ _ 0 _ _ _ RA.out
  have b0 := (HB1.out.cell (p := ⟨b, 0, none⟩) hltb).trans c0
  clear c0 c1 c2 c3 c4 c5 c6 hmk
  go_still_tail 6, (by kernel_rfl)
  change wpList _ _ _ _ _ w1.drew
  have hg : w1.drew.heap[w.heap.size + 1]? = some (.cells z 67 (0, 0)) := RG.out
  have hcur : z.size = s.ws.length * 2 := by rw [← HZ.out, z2, size_madeCells]
  have HM1 : Hid (MA w1.drew b g s lf) := (HH.out.on HB1.out).drewN 1
  have HBD := Lib.hid HB1.out.drew
  have HRA : Hid (w1.drew.heap[w.heap.size]? = some (.cells #[.slice (some ⟨w.heap.size + 1, 0, none⟩) s.ws.length s.ws.length, .int .i64 (s.en : Int), .int .i64 (s.wr : Int), .int .i64 (s.cu : Int), .bool s.on, .bool s.cut.isSome, .int .i64 (lf : Int)] 57 (0, 0))) := RA.out
  generalize w1.drew = wd at *
  refine wpList_copy_two rfl (.tmp 18) (.tmp 22) rfl (w.heap.size + 1) s.ws.length ⟨g, 0, none⟩ s.ws.length z (wcells s) rfl rfl hg (wcells_len s) hcur (wcells_src HM1.out) (wcells_one s) ?_
  have hB2 := below_setRow (Below.refl (w.heap.size + 1) wd) (Nat.le_refl _) (wcells s).toArray
  have hG2 : (wd.setRow (w.heap.size + 1) (wcells s).toArray).heap[w.heap.size + 1]? = some (.cells (wcells s).toArray 67 (0, 0)) := setRow_heap wd _ _ _ 67 _ hg
  have hA2 := (hB2.block w.heap.size (by omega)).trans HRA.out
  have HB2 := Lib.hid hB2
  have HG2 := Lib.hid hG2
  have HA2 := Lib.hid hA2
  clear hB2 hG2 hA2 hg a0 b0
  generalize wd.setRow (w.heap.size + 1) (wcells s).toArray = w2 at *
  go_wp2
  go_ret
  exact ⟨w.heap.size, w.heap.size + 1, rfl, ma_of_cells HA2.out HG2.out (by omega) HH.out.wl HH.out.n1 HH.out.n2 HH.out.lfc, Nat.le_refl _, by omega, HBD.out.trans (HB2.out.mono (by omega))⟩
end Go.Proofs.Ytcojoohbhkhlnaa
