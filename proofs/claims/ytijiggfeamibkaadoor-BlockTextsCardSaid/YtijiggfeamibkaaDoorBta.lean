/-
  The line of a block (the program's).
-/
import Derived.Test.YtijiggfeamibkaaDoorBtm
import Derived.StillTailTactics
namespace Go.Proofs.YtijiggfeamibkaaDoor
set_option linter.unusedVariables false
set_option linter.unusedSimpArgs false
open Go.RowKit

theorem pchoose_any (b : Bool) (y n : ByteArray) (w : World) : Calls Tryd.prog 58 #[.bool b, .string y, .string n] w fun e w' => e = .returned (.string (if b then y else n)) ∧ w' = w := by
  cases b
  · go_enter Tryd.func58, Tryd.ntmps58
    go_wp2_with fail
    go_ret
    exact ⟨rfl, rfl⟩
  · go_enter Tryd.func58, Tryd.ntmps58
    go_wp2_with fail
    go_ret
    exact ⟨rfl, rfl⟩
theorem pwords_any (ls : List (List UInt8)) (v : Value) (w : World) (hk : QL w w.heap.size v ls) (h0 : 0 < ls.length) (hm : ls.length ≤ 400) (hs : sumLn ls ≤ 100000) :
    Calls Tryd.prog 56 #[v] w fun e w' => e = .returned (.string ⟨(jn ls).toArray⟩) ∧ Below w.heap.size w w' := by
  have HJ := Lib.hid (join_any ls v w hk h0 hm hs)
  generalize jn ls = r at *
  obtain ⟨A, c, rfl, h1, h2, h3⟩ := hk
  clear h3
  go_enter Tryd.func56, Tryd.ntmps56
  go_wp2_with fail
  refine HJ.out.mono ?_
  rintro e w1 ⟨rfl, hb1⟩
  go_wp2_with fail
  go_ret
  exact ⟨rfl, hb1⟩
/-- A literal of strings in a block of its own. -/
theorem QL.lit (w : World) (ls : List (List UInt8)) (n : Nat) (hn : ls.length = n) (o : Obj) (ho : o = .cells (ls.map fun l => Value.string ⟨l.toArray⟩).toArray 9) (h1 : n ≤ 1000) : QL (w.alloc o) (w.alloc o).heap.size (.slice (some ⟨w.heap.size, 0, none⟩) n n) ls := by
  subst hn
  refine ⟨some ⟨w.heap.size, 0, none⟩, ls.length, rfl, Nat.le_refl _, by unfold maxLen; omega, fun _ => ⟨w.heap.size, 0, rfl, by rw [alloc_size]; omega, fun k hk => ?_⟩⟩
  rw [ho, cell_of_row _ w.heap.size _ _ 9 (0, 0) (heap_alloc_new w _), Nat.zero_add, List.getElem?_toArray, List.getElem?_map, List.getElem?_eq_getElem hk, List.getD_eq_getElem?_getD, List.getElem?_eq_getElem hk]
  rfl
theorem words_lit (ls : List (List UInt8)) (w : World) (n : Nat) (hn : ls.length = n) (o : Obj) (ho : o = .cells (ls.map fun l => Value.string ⟨l.toArray⟩).toArray 9) (h0 : 0 < n) (h1 : n ≤ 400) (hs : sumLn ls ≤ 100000) :
    Calls Tryd.prog 56 #[.slice (some ⟨w.heap.size, 0, none⟩) n n] (w.alloc o) fun e w' => e = .returned (.string ⟨(jn ls).toArray⟩) ∧ Below w.heap.size w w' :=
  (pwords_any ls _ _ (QL.lit w ls n hn o ho (by omega)) (by omega) (by omega) hs).mono fun e w' ⟨h, hb⟩ => ⟨h, below_alloc2 hb⟩

theorem words_drew (ls : List (List UInt8)) (w : World) (n : Nat) (hn : ls.length = n) (o : Obj) (ho : o = .cells (ls.map fun l => Value.string ⟨l.toArray⟩).toArray 9) (h0 : 0 < n) (h1 : n ≤ 400) (hs : sumLn ls ≤ 100000) :
    Calls Tryd.prog 56 #[.slice (some ⟨w.heap.size, 0, none⟩) n n] (w.alloc o).drew fun e w' => e = .returned (.string ⟨(jn ls).toArray⟩) ∧ Below w.heap.size w w' := by
  have hq : QL (w.alloc o).drew (w.alloc o).drew.heap.size (.slice (some ⟨w.heap.size, 0, none⟩) n n) ls := QL.lit w ls n hn o ho (by omega)
  have hb := (alloc_below w o).drew
  exact (pwords_any ls _ _ hq (by omega) (by omega) hs).mono fun e w' ⟨h, hb2⟩ => ⟨h, hb.trans (hb2.mono hb.size)⟩
theorem decF_01 {s : Int} (hs : isBit s = true) : decF s.toNat = [48] ∨ decF s.toNat = [49] := by
  rcases bit_cases hs with rfl | rfl
  · exact .inl rfl
  · exact .inr rfl
theorem wdI_len (m : Bool) : (wdI m).length = 4 := by cases m <;> rfl
theorem wdS_len (m : Bool) : (wdS m).length ≤ 7 := by cases m <;> decide
theorem itoa_bit (s : Int) (hs : isBit s = true) (W : World) : Calls Tryd.prog 57 #[.int .i64 s] W fun e w' => e = .returned (.string ⟨(decF s.toNat).toArray⟩) ∧ w' = W := by
  rcases bit_cases hs with rfl | rfl
  · exact (itoa_any 0 (by omega) W).mono fun e w' ⟨h, h'⟩ => ⟨h, h'.symm⟩
  · exact (itoa_any 1 (by omega) W).mono fun e w' ⟨h, h'⟩ => ⟨h, h'.symm⟩
theorem choose_I (m : Bool) (W : World) : Calls Tryd.prog 58 #[.bool m, .string ⟨#[109, 111, 114, 101]⟩, .string ⟨#[108, 97, 115, 116]⟩] W fun e w' => e = .returned (.string ⟨(wdI m).toArray⟩) ∧ w' = W :=
  (pchoose_any m _ _ W).mono fun e w' ⟨h, h'⟩ => ⟨by rw [h]; cases m <;> rfl, h'⟩
theorem choose_S (m : Bool) (W : World) : Calls Tryd.prog 58 #[.bool m, .string ⟨#[97, 110, 115, 119, 101, 114]⟩, .string ⟨#[114, 101, 113, 117, 101, 115, 116]⟩] W fun e w' => e = .returned (.string ⟨(wdS m).toArray⟩) ∧ w' = W :=
  (pchoose_any m _ _ W).mono fun e w' ⟨h, h'⟩ => ⟨by rw [h]; cases m <;> rfl, h'⟩

set_option maxRecDepth 100000 in
set_option maxHeartbeats 1600000 in
theorem pline_inf (s : Int) (m : Bool) (nd ft : List UInt8) (w : World) (hs : isBit s = true) (hn : nd.length ≤ 2) (hf : ft.length ≤ 1000) :
    Calls Tryd.prog 53 #[.agg #[.int .i64 s, .bool m], .string ⟨nd.toArray⟩, .string ⟨ft.toArray⟩] w fun e w' => e = .returned (.string ⟨(jn [[73], nd, decF s.toNat, wdI m, ft]).toArray⟩) ∧ Below w.heap.size w w' := by
  have HI := Lib.hid (itoa_bit s hs)
  have HC := Lib.hid (choose_I m)
  have HS := decF_01 hs
  have HW : Hid (∀ W o, o = Obj.cells #[.string ⟨#[73]⟩, .string ⟨nd.toArray⟩, .string ⟨(decF s.toNat).toArray⟩, .string ⟨(wdI m).toArray⟩, .string ⟨ft.toArray⟩] 9 → Calls Tryd.prog 56 #[.slice (some ⟨W.heap.size, 0, none⟩) 5 5] (W.alloc o).drew fun e w' => e = .returned (.string ⟨(jn [[73], nd, decF s.toNat, wdI m, ft]).toArray⟩) ∧ Below W.heap.size W w') := fun W o ho =>
    words_drew [[73], nd, decF s.toNat, wdI m, ft] W 5 rfl o (by rw [ho]; rfl) (by omega) (by omega) (by
      have := wdI_len m
      rcases HS with h | h <;> (simp [sumLn, h, this]; omega))
  have hrow := heap_alloc_new w (.cells #[.int .i64 s, .bool m] 46)
  have x0 := cell_of_row _ w.heap.size 0 _ _ _ hrow
  have x1 := cell_of_row _ w.heap.size 1 _ _ _ hrow
  simp only [List.getElem?_toArray, List.getElem?_cons_zero, List.getElem?_cons_succ] at x0 x1
  have HB := Lib.hid (alloc_below w (.cells #[.int .i64 s, .bool m] 46))
  clear hrow HS
  generalize jn [[73], nd, decF s.toNat, wdI m, ft] = r at *
  generalize decF s.toNat = ds at *
  generalize wdI m = dw at *
  go_enter Tryd.func53, Tryd.ntmps53
  go_wp2_with fail
  generalize w.alloc (Obj.cells #[.int .i64 s, .bool m] 46) = W0 at *
  refine wp_region_still_tail 8 (by kernel_rfl) (by kernel_rfl) ?_
  simp only [List.take_succ_cons, List.take_zero, List.drop_succ_cons, List.drop_zero]
  repeat still_step
  still_call (HI.out _)
  repeat still_step
  still_call (HC.out _)
  repeat still_step
  refine wpStill_nil ?_
  change wpList _ _ _ _ _ W0.drew
  go_wp2_with fail
  refine (HW.out _ _ rfl).mono ?_
  rintro e w3 ⟨rfl, hb3⟩
  go_wp2_with fail
  go_ret
  exact ⟨rfl, HB.out.trans (Below.mono hb3 HB.out.size)⟩
end Go.Proofs.YtijiggfeamibkaaDoor
