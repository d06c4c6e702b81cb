/-
  Layer 20: the example in which every law ends.
-/
import Derived.Test.YtndkkkkfgihemaaMoi
namespace Go.Proofs.Ytndkkkkfgihemaa
set_option linter.unusedVariables false
set_option linter.unusedSimpArgs false
open Go.RowKit

theorem SL.litn (w : World) (l : List UInt8) (h : l.length ≤ 1000) : SL (w.alloc (.cells (l.map bv).toArray 5)) (w.alloc (.cells (l.map bv).toArray 5)).heap.size (.slice (some ⟨w.heap.size, 0, none⟩) l.length l.length) l :=
  ⟨_, _, rfl, Nat.le_refl _, by simp only [maxLen]; omega, fun _ => ⟨w.heap.size, 0, rfl, by rw [alloc_size]; omega, fun k hk => by
    rw [cell_of_row _ w.heap.size _ _ 5 (0, 0) (heap_alloc_new w _), Nat.zero_add, List.getElem?_toArray, map_bv_get l k hk]⟩⟩
def z8 : List UInt8 := List.replicate 8 0
def z16 : List UInt8 := List.replicate 16 0
def blk1 : List UInt8 := [1, 2, 128, 0, 0, 0, 0, 0]
theorem mac_ex : macM z16 z8 [1, 2] = encM z16 blk1 := by
  have e : xorL (blk (padL [1, 2] 8) 0) z8 = blk1 := by decide
  have f : fitM z16 z8 = 0 := by decide
  have g : fitE z16 blk1 = 0 := by decide
  have h1 : (padL [1, 2] 8).length = 8 := by decide
  rw [macM, if_pos f, encM, if_pos g, macL, h1, cbE, h1]
  simp only [Nat.reduceDiv, Nat.sub_self, List.drop_zero, encS, List.nil_append, e]
theorem cb_ex (k : List UInt8) : cbE k z8 [] = [] := rfl

/-- The key and the block of zeros. -/
def Cx (w W : World) (vk vz : Value) : Prop := SL W W.heap.size vk z16 ∧ SL W W.heap.size vz z8 ∧ Below w.heap.size w W
theorem Cx.on {w W W' : World} {vk vz : Value} (h : Cx w W vk vz) (hb : Below W.heap.size W W') : Cx w W' vk vz := ⟨h.1.on hb, h.2.1.on hb, after h.2.2 hb⟩
theorem works_1 (w W : World) (vk vz : Value) (h : Cx w W vk vz) : Calls Try.prog 24 #[vk, vz, .slice none 0 0] W fun e w' => ∃ A c, e = .returned (.tuple #[.slice A 0 c, .int .i64 0]) ∧ Cx w w' vk vz := by
  have f : fitC z16 z8 [] = 0 := by decide
  have := pcbe_any z16 z8 [] vk vz (.slice none 0 0) W h.1 h.2.1 (SL.nil _ _ _ _ (Nat.zero_le _)) (by simp)
  rw [f, if_pos rfl, cb_ex] at this
  refine this.mono fun e w' ⟨v', e1, e2, e3⟩ => ?_
  obtain ⟨A, c, rfl⟩ := e2.value
  exact ⟨A, c, e1, h.on e3⟩
theorem works_2 (w W : World) (vk vz : Value) (h : Cx w W vk vz) (o : Obj) (ho : o = Obj.cells #[.int .u8 1, .int .u8 2] 5) : Calls Try.prog 28 #[vk, vz, .slice (some ⟨W.heap.size, 0, none⟩) 2 2] (W.alloc o) fun e w' => ∃ v', e = .returned (.tuple #[v', .int .i64 0]) ∧ SL w' w'.heap.size v' (macM z16 z8 [1, 2]) ∧ Cx w w' vk vz := by
  subst ho
  have hb := (Below.refl W.heap.size W).alloc (Nat.le_refl _) (Obj.cells #[.int .u8 1, .int .u8 2] 5)
  have f : fitM z16 z8 = 0 := by decide
  have := pmac_any z16 z8 [1, 2] vk vz _ _ (h.on hb).1 (h.on hb).2.1 (SL.litn W [1, 2] (by simp)) (by simp)
  rw [f] at this
  exact this.mono fun e w' ⟨v', e1, e2, e3⟩ => ⟨v', e1, e2, (h.on hb).on e3⟩
theorem works_3 (w W : World) (vk vz v2 : Value) (h : Cx w W vk vz) (h2 : SL W W.heap.size v2 (macM z16 z8 [1, 2])) (o : Obj) (ho : o = Obj.cells #[.int .u8 1, .int .u8 2, .int .u8 128, .int .u8 0, .int .u8 0, .int .u8 0, .int .u8 0, .int .u8 0] 5) :
    Calls Try.prog 17 #[vk, .slice (some ⟨W.heap.size, 0, none⟩) 8 8] (W.alloc o) fun e w' => ∃ v', e = .returned (.tuple #[v', .int .i64 0]) ∧ SL w' w'.heap.size v' (macM z16 z8 [1, 2]) ∧ SL w' w'.heap.size v2 (macM z16 z8 [1, 2]) ∧ Cx w w' vk vz := by
  subst ho
  have hb := (Below.refl W.heap.size W).alloc (Nat.le_refl _) (Obj.cells #[.int .u8 1, .int .u8 2, .int .u8 128, .int .u8 0, .int .u8 0, .int .u8 0, .int .u8 0, .int .u8 0] 5)
  have f : fitE z16 blk1 = 0 := by decide
  have := renc_any z16 blk1 vk _ _ (h.on hb).1 (SL.litn W blk1 (by decide))
  rw [f] at this
  rw [mac_ex] at h2 ⊢
  exact this.mono fun e w' ⟨v', e1, e2, e3⟩ => ⟨v', e1, e2.sl, (h2.on hb).on e3, (h.on hb).on e3⟩

set_option maxRecDepth 100000 in
set_option maxHeartbeats 6400000 in
theorem works_any (w : World) : Calls Try.prog 23 #[] w fun e w' => e = .returned (.bool true) ∧ Below w.heap.size w w' := by
  obtain ⟨Z8, m8, o8⟩ : ∃ Z : Obj, (∀ W : World, (Instr.makeSlice 22 (.int .i64 8) (.int .i64 8)).run Try.prog W = .ok (.slice (some ⟨W.heap.size, 0, none⟩) 8 8) (W.alloc Z)) ∧ Hid (∀ W : World, OB (W.alloc Z) W.heap.size (.slice (some ⟨W.heap.size, 0, none⟩) 8 8) z8) := ⟨_, mkz8, ob_zeros 8 (by omega)⟩
  obtain ⟨Z16, m16, o16⟩ : ∃ Z : Obj, (∀ W : World, (Instr.makeSlice 22 (.int .i64 16) (.int .i64 16)).run Try.prog W = .ok (.slice (some ⟨W.heap.size, 0, none⟩) 16 16) (W.alloc Z)) ∧ Hid (∀ W : World, OB (W.alloc Z) W.heap.size (.slice (some ⟨W.heap.size, 0, none⟩) 16 16) z16) := ⟨_, mkz16, ob_zeros 16 (by omega)⟩
  have F1 : Hid (Cx w ((w.alloc Z16).alloc Z8).drew (.slice (some ⟨w.heap.size, 0, none⟩) 16 16) (.slice (some ⟨w.heap.size + 1, 0, none⟩) 8 8)) := by
    refine ⟨(o16.out w).sl.on ((Below.refl _ _).alloc (Nat.le_refl _) Z8).drew, ?_, (alloc2_below w Z16 Z8).drew⟩
    have := (o8.out (w.alloc Z16)).sl
    rw [alloc_size w Z16] at this
    exact this
  have F2 : Hid (Cx w ((w.alloc Z8).alloc Z16).drew (.slice (some ⟨w.heap.size + 1, 0, none⟩) 16 16) (.slice (some ⟨w.heap.size, 0, none⟩) 8 8)) := by
    refine ⟨?_, (o8.out w).sl.on ((Below.refl _ _).alloc (Nat.le_refl _) Z16).drew, (alloc2_below w Z8 Z16).drew⟩
    have := (o16.out (w.alloc Z8)).sl
    rw [alloc_size w Z8] at this
    exact this
  have E1 := Lib.hid (works_1 w)
  have E2 := Lib.hid (works_2 w)
  have E3 := Lib.hid (works_3 w)
  have E4 := Lib.hid (fun W => phash_any [] (.slice none 0 0) W (SL.nil _ _ _ _ (Nat.zero_le _)) (by simp))
  have HL4 := Lib.hid (hashL_len [])
  generalize hashL [] = rh at *
  rw [mac_ex] at E2
  rw [mac_ex] at E3
  generalize encM z16 blk1 = r at *
  go_enter Try.func23, Try.ntmps23
  go_wp2
  go_region_with (fail)
  all_goals
    go_wp2_with fail
    first
      | (with_reducible refine (E1.out _ _ _ F1.out).mono ?_)
      | (with_reducible refine (E1.out _ _ _ F2.out).mono ?_)
    rintro e w1 ⟨A1, c1, rfl, x1⟩
    go_wp2_with fail
    refine (E2.out _ _ _ x1 _ rfl).mono ?_
    rintro e w2 ⟨v2, rfl, hv2, x2⟩
    go_wp2_with fail
    refine (E3.out _ _ _ _ x2 hv2 _ rfl).mono ?_
    rintro e w3 ⟨v3, rfl, hv3, hv2', x3⟩
    have C2 := hv2'.convert
    have C3 := hv3.convert
    go_wp2_with fail
    refine (E4.out _).mono ?_
    rintro e w4 ⟨v4, rfl, hv4, hb4⟩
    obtain ⟨A4, c4, rfl, _, _, _⟩ := hv4
    rw [HL4.out]
    go_wp2
    go_ret
    exact ⟨rfl, after x3.2.2 hb4⟩
end Go.Proofs.Ytndkkkkfgihemaa
