/-
  The walk of the examples that every law ends with.
-/
import Derived.Test.YtahnmnbjgbfeaaaSpl
import Derived.Test.YtahnmnbjgbfeaaaPar
import Derived.Test.YtahnmnbjgbfeaaaHex
import Derived.Test.YtahnmnbjgbfeaaaPad
import Derived.Test.YtahnmnbjgbfeaaaPut
namespace Go.Proofs.Ytahnmnbjgbfeaaa
set_option linter.unusedVariables false
set_option linter.unusedSimpArgs false
open Go.RowKit

theorem pparse_some (s : ByteArray) (m : List UInt8) (w : World) (hs : s.size ≤ 400000) (h : parseL s.data.toList = some m) :
    Calls Try.prog 20 #[.string s] w fun e w' => ∃ v', e = .returned (.tuple #[v', .int .i64 0]) ∧ SL w' w'.heap.size v' m ∧ Below w.heap.size w w' :=
  pparse_any s w hs _ (fun m' hm v' w' h1 h2 => ⟨v', rfl, by rw [h] at hm; cases hm; exact h1, h2⟩) (fun hm => by rw [h] at hm; cases hm)
theorem pparse_none (s : ByteArray) (w : World) (hs : s.size ≤ 400000) (h : parseL s.data.toList = none) :
    Calls Try.prog 20 #[.string s] w fun e w' => e = .returned (.tuple #[.slice none 0 0, .int .i64 4]) ∧ Below w.heap.size w w' :=
  pparse_any s w hs _ (fun m' hm => by rw [h] at hm; cases hm) (fun _ w' h2 => ⟨rfl, h2⟩)
theorem punpad_some (l m : List UInt8) (v : Value) (w : World) (hl : SL w w.heap.size v l) (hs : l.length ≤ 200000) (h : unpadL l = some m) :
    Calls Try.prog 33 #[v] w fun e w' => ∃ v', e = .returned (.tuple #[v', .int .i64 0]) ∧ SL w' w'.heap.size v' m ∧ Below w.heap.size w w' :=
  punpad_any l v w hl hs _ (fun m' hm v' w' h1 h2 => ⟨v', rfl, by rw [h] at hm; cases hm; exact h1, h2⟩) (fun hm => by rw [h] at hm; cases hm)
theorem punpad_none (l : List UInt8) (v : Value) (w : World) (hl : SL w w.heap.size v l) (hs : l.length ≤ 200000) (h : unpadL l = none) :
    Calls Try.prog 33 #[v] w fun e w' => e = .returned (.tuple #[.slice none 0 0, .int .i64 4]) ∧ w = w' :=
  punpad_any l v w hl hs _ (fun m' hm => by rw [h] at hm; cases hm) (fun _ => ⟨rfl, rfl⟩)

/-- A literal of bytes in a new block. -/
theorem SL.lit (w : World) (l : List UInt8) (h : l.length ≤ 1000) : SL (w.alloc (.cells (l.map bv).toArray 5)) (w.heap.size + 1) (.slice (some ⟨w.heap.size, 0, none⟩) l.length l.length) l :=
  ⟨_, _, rfl, Nat.le_refl _, by simp only [maxLen]; omega, fun _ => ⟨w.heap.size, 0, rfl, Nat.lt_succ_self _, fun k hk => by
    rw [cell_of_row _ w.heap.size _ _ 5 (0, 0) (heap_alloc_new w _), Nat.zero_add, List.getElem?_toArray, map_bv_get l k hk]⟩⟩

theorem alloc_below (w : World) (o : Obj) : Below w.heap.size w (w.alloc o) := (Below.refl _ w).alloc (Nat.le_refl _) o
theorem alloc_size (w : World) (o : Obj) : (w.alloc o).heap.size = w.heap.size + 1 := by simp
theorem SL.lit' (w : World) (l : List UInt8) (h : l.length ≤ 1000) : SL (w.alloc (.cells (l.map bv).toArray 5)) (w.alloc (.cells (l.map bv).toArray 5)).heap.size (.slice (some ⟨w.heap.size, 0, none⟩) l.length l.length) l := by
  rw [alloc_size]; exact SL.lit w l h
theorem after_alloc {w w' : World} {o : Obj} (h : Below (w.alloc o).heap.size (w.alloc o) w') : Below w.heap.size w w' :=
  (alloc_below w o).trans (h.mono (by rw [alloc_size]; omega))

theorem ex_parse1 (w : World) : Calls Try.prog 20 #[.string ⟨#[48, 65, 102, 70]⟩] w fun e w' => ∃ v', e = .returned (.tuple #[v', .int .i64 0]) ∧ SL w' w'.heap.size v' [10, 255] ∧ Below w.heap.size w w' :=
  pparse_some ⟨#[48, 65, 102, 70]⟩ [10, 255] w (by decide) (by decide)
theorem ex_parse2 (w : World) : Calls Try.prog 20 #[.string ⟨#[48, 103]⟩] w fun e w' => e = .returned (.tuple #[.slice none 0 0, .int .i64 4]) ∧ Below w.heap.size w w' :=
  pparse_none ⟨#[48, 103]⟩ w (by decide) (by decide)
theorem ex_pad (w : World) : Calls Try.prog 31 #[.slice (some ⟨w.heap.size, 0, none⟩) 2 2, .int .i64 4] (w.alloc (.cells #[.int .u8 1, .int .u8 2] 5)) fun e w' => ∃ v', e = .returned (.tuple #[v', .int .i64 0]) ∧ SL w' w'.heap.size v' [1, 2, 128, 0] ∧ Below w.heap.size w w' :=
  (ppad_ok [1, 2] (.slice (some ⟨w.heap.size, 0, none⟩) 2 2) 4 (w.alloc (.cells #[.int .u8 1, .int .u8 2] 5)) (SL.lit' w [1, 2] (by decide)) (by decide) (by decide) (by decide)).mono fun e w' ⟨v', h1, h2, h3⟩ => ⟨v', h1, h2, after_alloc h3⟩
theorem ex_unp1 (w : World) : Calls Try.prog 33 #[.slice (some ⟨w.heap.size, 0, none⟩) 3 3] (w.alloc (.cells #[.int .u8 0, .int .u8 128, .int .u8 0] 5)) fun e w' => ∃ v', e = .returned (.tuple #[v', .int .i64 0]) ∧ SL w' w'.heap.size v' [0] ∧ Below w.heap.size w w' :=
  (punpad_some [0, 128, 0] [0] (.slice (some ⟨w.heap.size, 0, none⟩) 3 3) (w.alloc (.cells #[.int .u8 0, .int .u8 128, .int .u8 0] 5)) (SL.lit' w [0, 128, 0] (by decide)) (by decide) (by decide)).mono fun e w' ⟨v', h1, h2, h3⟩ => ⟨v', h1, h2, after_alloc h3⟩
theorem ex_unp2 (w : World) : Calls Try.prog 33 #[.slice (some ⟨w.heap.size, 0, none⟩) 2 2] (w.alloc (.cells #[.int .u8 0, .int .u8 0] 5)) fun e w' => e = .returned (.tuple #[.slice none 0 0, .int .i64 4]) ∧ Below w.heap.size w w' :=
  (punpad_none [0, 0] (.slice (some ⟨w.heap.size, 0, none⟩) 2 2) (w.alloc (.cells #[.int .u8 0, .int .u8 0] 5)) (SL.lit' w [0, 0] (by decide)) (by decide) (by decide)).mono fun e w' ⟨h1, h2⟩ => ⟨h1, by rw [← h2]; exact alloc_below _ _⟩
theorem ex_put1 (w : World) : Calls Try.prog 35 #[.int .i64 258, .int .i64 3] w fun e w' => ∃ v', e = .returned (.tuple #[v', .int .i64 0]) ∧ SL w' w'.heap.size v' [0, 1, 2] ∧ Below w.heap.size w w' :=
  pput_ok 258 3 w (by decide) (by decide) (by decide) (by decide)
theorem ex_put2 (w : World) : Calls Try.prog 35 #[.int .i64 256, .int .i64 1] w fun e w' => e = .returned (.tuple #[.slice none 0 0, .int .i64 2]) ∧ w = w' :=
  pput_range 256 1 w (by decide) (by decide) (by decide) (by decide)
theorem ex_spl (w : World) : Calls Try.prog 41 #[.slice (some ⟨w.heap.size, 0, none⟩) 3 3, .int .i64 2] (w.alloc (.cells #[.int .u8 1, .int .u8 2, .int .u8 3] 5)) fun e w' =>
    ∃ b o c v9, e = .returned (.tuple #[.slice (some ⟨b, o, none⟩) 2 c, .int .i64 0]) ∧ w'.cell? ⟨b, o + 1, none⟩ = some v9 ∧ SL w' w'.heap.size v9 [3] ∧ Below w.heap.size w w' :=
  (psplit_ok [1, 2, 3] (.slice (some ⟨w.heap.size, 0, none⟩) 3 3) 2 (w.alloc (.cells #[.int .u8 1, .int .u8 2, .int .u8 3] 5)) (SL.lit' w [1, 2, 3] (by decide)) (by decide) (by decide) (by decide)).mono fun e w' ⟨v', h1, h2, h3⟩ => by
    have e0 : splitL [1, 2, 3] 2 = [[1, 2], [3]] := by decide
    rw [e0] at h2
    obtain ⟨A, c, vs, rfl, _, _, _, hA, hS⟩ := h2
    obtain ⟨b, o, rfl, _, hc⟩ := hA.out (by decide)
    exact ⟨b, o, c, _, h1, hc 1 (by decide), hS.out 1 (by decide), after_alloc h3⟩

theorem ex_hex (w : World) (v : Value) (l m : List UInt8) (hm : hexL l = m) (hl : l.length ≤ 200000) (h : SL w w.heap.size v l) : Calls Try.prog 22 #[v] w fun e w' => e = .returned (.string ⟨m.toArray⟩) ∧ Below w.heap.size w w' := by
  subst hm
  exact phex_any l v w h hl

set_option maxRecDepth 100000 in
set_option maxHeartbeats 3200000 in
theorem example_any (w : World) : Calls Try.prog 19 #[] w fun e w' => e = .returned (.bool true) ∧ Below w.heap.size w w' := by
  go_enter Try.func19, Try.ntmps19
  go_wp2_with fail
  refine (ex_parse1 w).mono ?_
  rintro e w1 ⟨v1, rfl, hv1, hb1⟩
  go_wp2_with fail
  refine (ex_parse2 w1).mono ?_
  rintro e w2 ⟨rfl, hb2⟩
  go_wp2_with fail
  refine (ex_pad w2).mono ?_
  rintro e w3 ⟨v3, rfl, hv3, hb3⟩
  go_wp2_with fail
  refine (ex_unp1 w3).mono ?_
  rintro e w4 ⟨v4, rfl, hv4, hb4⟩
  go_wp2_with fail
  refine (ex_unp2 w4).mono ?_
  rintro e w5 ⟨rfl, hb5⟩
  go_wp2_with fail
  refine (ex_put1 w5).mono ?_
  rintro e w6 ⟨v6, rfl, hv6, hb6⟩
  go_wp2_with fail
  refine (ex_put2 w6).mono ?_
  rintro e w7 ⟨rfl, rfl⟩
  go_wp2_with fail
  refine (ex_spl _).mono ?_
  rintro e w8 ⟨b8, o8, c8, v9, rfl, hc8, hv9, hb8⟩
  go_wp2_with fail
  have k1 := ((((((hv1.on hb2).on hb3).on hb4).on hb5).on hb6).on hb8)
  refine (ex_hex w8 v1 [10, 255] [48, 97, 102, 102] (by decide) (by decide) k1).mono ?_
  rintro e w9 ⟨rfl, hb9⟩
  go_wp2_with fail
  have k2 := (((((hv3.on hb4).on hb5).on hb6).on hb8).on hb9)
  refine (ex_hex w9 v3 [1, 2, 128, 0] [48, 49, 48, 50, 56, 48, 48, 48] (by decide) (by decide) k2).mono ?_
  rintro e wa ⟨rfl, hba⟩
  go_wp2_with fail
  have k3 := (((((hv4.on hb5).on hb6).on hb8).on hb9).on hba)
  refine (ex_hex wa v4 [0] [48, 48] (by decide) (by decide) k3).mono ?_
  rintro e wb ⟨rfl, hbb⟩
  go_wp2_with fail
  have k4 := ((((hv6.on hb8).on hb9).on hba).on hbb)
  refine (ex_hex wb v6 [0, 1, 2] [48, 48, 48, 49, 48, 50] (by decide) (by decide) k4).mono ?_
  rintro e wc ⟨rfl, hbc⟩
  have k5 := ((((hv9.on hb9).on hba).on hbb).on hbc)
  have hlt : b8 < w8.heap.size := World.block_lt_of_cell? w8 _ hc8
  have hcc : wc.cell? ⟨b8, o8 + 1, none⟩ = some v9 := by
    have s9 := hb9.size
    have sa := hba.size
    have sb := hbb.size
    rw [hbc.cell (p := ⟨b8, o8 + 1, none⟩) (show b8 < wb.heap.size by omega), hbb.cell (p := ⟨b8, o8 + 1, none⟩) (show b8 < wa.heap.size by omega), hba.cell (p := ⟨b8, o8 + 1, none⟩) (show b8 < w9.heap.size by omega), hb9.cell (p := ⟨b8, o8 + 1, none⟩) hlt]
    exact hc8
  go_wp2_with fail
  refine (ex_hex wc v9 [3] [48, 51] (by decide) (by decide) k5).mono ?_
  rintro e wd ⟨rfl, hbd⟩
  go_wp2_with fail
  go_ret
  have m2 := hb1.size
  have m3 := hb2.size
  have m4 := hb3.size
  have m5 := hb4.size
  have m6 := hb5.size
  have m8 := hb6.size
  have m9 := hb8.size
  have ma := hb9.size
  have mb := hba.size
  have mc := hbb.size
  have md := hbc.size
  exact ⟨rfl, ((((((((((hb1.trans (hb2.mono m2)).trans (hb3.mono (by omega))).trans (hb4.mono (by omega))).trans (hb5.mono (by omega))).trans (hb6.mono (by omega))).trans (hb8.mono (by omega))).trans (hb9.mono (by omega))).trans (hba.mono (by omega))).trans (hbb.mono (by omega))).trans (hbc.mono (by omega))).trans (hbd.mono (by omega))⟩
end Go.Proofs.Ytahnmnbjgbfeaaa
