/-
  Encode of the example.
-/
import Derived.Test.YtkjcafhaenkpbaaDoorFlc
import Derived.Laws.EntriesVeiled
namespace Go.Proofs.YtkjcafhaenkpbaaDoor
set_option linter.unusedVariables false
set_option linter.unusedSimpArgs false
open Go.RowKit

def exL : List (Int × List UInt8) := [(130, [2]), (131, [47, 1]), (128, [0, 32]), (136, [1]), (138, [1])]
/-- How many of the parts have been written behind k rounds. -/
def exK : Nat → Nat | 0 => 0 | 1 => 1 | 2 => 2 | 3 => 2 | 4 => 3 | 5 => 4 | 6 => 5 | _ => 5
def exB : List UInt8 := [98, 17, 130, 1, 2, 131, 2, 47, 1, 128, 2, 0, 32, 136, 1, 1, 138, 1, 1]
def exT : T := .mk 98 [] (exL.map gObj)
theorem ex_encM : encM [exT] = exB := by kernel_rfl
theorem ex_encE : encE [exT] = 0 := by kernel_rfl
theorem ex_encL : (encL [exT]).length ≤ 100000 := by
  have h : (encL [exT]).length = 19 := by kernel_rfl
  omega
theorem row3_set2 (w : World) (g : Nat) (ty : TypeId) (a b c z : Value) (hg : w.heap[g]? = some (.cells #[a, b, c] ty (0, 0))) : (w.setCell ⟨g, 2, none⟩ z).heap[g]? = some (.cells #[a, b, z] ty (0, 0)) := by
  rw [heap_setCell_same w g 2 _ ty z hg]
  simp
theorem Kb.below2 {b : Nat} {x y z : World} (h : Kb b x y) (hb : Below x.heap.size y z) : Kb b x z :=
  ⟨hb.os.trans h.os, hb.tape.trans h.tape, hb.output.trans h.output, Nat.le_trans h.size hb.size, fun k hk hne => (hb.block k hk).trans (h.block k hk hne)⟩
theorem TL.one (w : World) (t : Int) (v : Value) (ks : List T) (h : TL w w.heap.size v ks) : TL (w.alloc (Obj.cells #[.int .i64 t, .slice none 0 0, v] 53)) (w.alloc (Obj.cells #[.int .i64 t, .slice none 0 0, v] 53)).heap.size (.slice (some ⟨w.heap.size, 0, none⟩) 1 1) [.mk t [] ks] := by
  have hb := alloc_below w (Obj.cells #[.int .i64 t, .slice none 0 0, v] 53)
  have hr := heap_alloc_new w (Obj.cells #[.int .i64 t, .slice none 0 0, v] 53)
  refine ⟨_, 1, rfl, Nat.le_refl _, by unfold maxLen; omega, fun _ => ⟨w.heap.size, 0, rfl, by rw [alloc_size]; omega, ?_⟩⟩
  unfold TsAt TsAt
  exact ⟨TAt.make ((cell_of_row _ _ 0 _ _ _ hr).trans rfl) ⟨_, (cell_of_row _ _ 1 _ _ _ hr).trans rfl, SL.nil _ _ _ _ (Nat.zero_le _)⟩ ⟨_, (cell_of_row _ _ 2 _ _ _ hr).trans rfl, h.on hb⟩, trivial⟩
set_option maxRecDepth 100000 in
set_option maxHeartbeats 25600000 in
theorem ex_enc (w : World) (hT : Tb w) : Calls Tryd.prog 14 #[.agg #[.int .i64 12033, .int .i64 2, .slice none 0 0, .int .i64 1, .int .i64 32, .int .i64 0, .int .i64 0, .int .i64 1, .slice none 0 0]] w fun e w' => ∃ v', e = .returned (.tuple #[v', .int .i64 0]) ∧ SL w' w'.heap.size v' exB ∧ Below w.heap.size w w' := by
  have hb := alloc_below w (Obj.cells #[.int .i64 12033, .int .i64 2, .slice none 0 0, .int .i64 1, .int .i64 32, .int .i64 0, .int .i64 0, .int .i64 1, .slice none 0 0] 25)
  have hn := heap_alloc_new w (Obj.cells #[.int .i64 12033, .int .i64 2, .slice none 0 0, .int .i64 1, .int .i64 32, .int .i64 0, .int .i64 0, .int .i64 1, .slice none 0 0] 25)
  have hz := alloc_size w (Obj.cells #[.int .i64 12033, .int .i64 2, .slice none 0 0, .int .i64 1, .int .i64 32, .int .i64 0, .int .i64 0, .int .i64 1, .slice none 0 0] 25)
  have HC := Lib.hid (ex_chk _ (hT.on hb))
  have HT := Lib.hid (hT.on hb)
  have HB := Lib.hid hb
  have HN := Lib.hid hn
  have HZ := Lib.hid hz
  clear hb hn hz hT
  go_enter Tryd.func14, Tryd.ntmps14
  go_wp2_with fail
  refine HC.out.mono ?_
  rintro e w1 ⟨rfl, hb1⟩
  have hk1 := (hb1.block w.heap.size (by rw [HZ.out]; omega)).trans HN.out
  have hs1 : w.heap.size + 1 ≤ w1.heap.size := by have := hb1.size; rw [HZ.out] at this; exact this
  have HB1 := Lib.hid (HB.out.trans (hb1.mono HB.out.size))
  have HT1 := Lib.hid (HT.out.on hb1)
  have HK1 := Lib.hid hk1
  clear hb1 hk1
  have hb2 := alloc_below w1 (Obj.cells #[.int .i64 98, .slice none 0 0, .slice none 0 0] 53)
  have hn2 := heap_alloc_new w1 (Obj.cells #[.int .i64 98, .slice none 0 0, .slice none 0 0] 53)
  have hz2 := alloc_size w1 (Obj.cells #[.int .i64 98, .slice none 0 0, .slice none 0 0] 53)
  have HP := Lib.hid (parts_any (w1.alloc (Obj.cells #[.int .i64 98, .slice none 0 0, .slice none 0 0] 53)))
  have HB2 := Lib.hid hb2
  have HN2 := Lib.hid hn2
  have HZ2 := Lib.hid hz2
  clear hb2 hn2 hz2
  go_wp2_with fail
  refine HP.out.mono ?_
  rintro e w3 ⟨rfl, hrow, hb3⟩
  generalize (w1.alloc (Obj.cells #[Value.int IntKind.i64 98, Value.slice none 0 0, Value.slice none 0 0] 53)) = w2 at *
  have HROW := Lib.hid hrow
  have HB3 := Lib.hid hb3
  clear hrow hb3
  have hz12a : w1.heap.size + 1 ≤ w2.heap.size := Nat.le_of_eq HZ2.out.symm
  have hz12b : w2.heap.size ≤ w1.heap.size + 1 := Nat.le_of_eq HZ2.out
  have hs23 := HB3.out.size
  have hg3 : w2.heap.size + 1 + 1 + 1 + 1 + 1 < w3.heap.size := (Array.getElem?_eq_some_iff.1 HROW.out).1
  have HBX := Lib.hid ((HB3.out.block w1.heap.size (by omega)).trans HN2.out)
  have hb13 : Below w1.heap.size w1 w3 := HB2.out.trans (HB3.out.mono (by omega))
  have HFX := Lib.hid ((hb13.block w.heap.size (by omega)).trans HK1.out)
  have HW3 := Lib.hid (HB1.out.trans (hb13.mono HB1.out.size))
  have HT3 := Lib.hid (HT1.out.on hb13)
  clear hb13
  go_wp2_with fail
  go_loopw [17] (fun i wr => ∃ (k : Nat) (v : Value), k ≤ 7 ∧ i = .int .i64 k ∧ Hid (OG wr w3.heap.size v (exL.take (exK k))) ∧ Hid (wr.heap[w1.heap.size]? = some (.cells #[.int .i64 98, .slice none 0 0, v] 53 (0, 0))) ∧ Hid (Kb w1.heap.size w3 wr)) (fun i _ => 7 - (intOf i).toNat)
  case atStart => exact ⟨0, .slice none 0 0, by omega, rfl, OG.nil _ _, HBX, Kb.refl _ _⟩
  case round =>
    obtain ⟨k, v, hk, rfl, HO, HX, HKB⟩ := hrel
    obtain ⟨A6, c6, hv6⟩ := HO.out.value
    have hsr := HKB.out.size
    have x2 := cell_of_row _ _ 2 _ _ _ HX.out
    have x0 := cell_of_row _ _ 0 _ _ _ HX.out
    have x1 := cell_of_row _ _ 1 _ _ _ HX.out
    have hpr := (HKB.out.block (w2.heap.size + 1 + 1 + 1 + 1 + 1) hg3 (by omega)).trans HROW.out
    have hfx := (HKB.out.block w.heap.size (by omega) (by omega)).trans HFX.out
    unfold paRow at hpr
    have f0 := cell_of_row _ _ 0 _ _ _ hfx
    have f1 := cell_of_row _ _ 1 _ _ _ hfx
    have f2 := cell_of_row _ _ 2 _ _ _ hfx
    have f3 := cell_of_row _ _ 3 _ _ _ hfx
    have f4 := cell_of_row _ _ 4 _ _ _ hfx
    have f5 := cell_of_row _ _ 5 _ _ _ hfx
    have f6 := cell_of_row _ _ 6 _ _ _ hfx
    have f7 := cell_of_row _ _ 7 _ _ _ hfx
    have f8 := cell_of_row _ _ 8 _ _ _ hfx
    have hlt0 : w.heap.size < wr.heap.size := by omega
    have hlt1 : w1.heap.size < wr.heap.size := by omega
    have HBW := Lib.hid (HW3.out.trans (HKB.out.below (by omega) (by omega)))
    have hk8 : k = 0 ∨ k = 1 ∨ k = 2 ∨ k = 3 ∨ k = 4 ∨ k = 5 ∨ k = 6 ∨ k = 7 := by omega
    rcases hk8 with rfl | rfl | rfl | rfl | rfl | rfl | rfl | rfl
    · have c0 := cell_of_row _ _ 0 _ _ _ hpr
      have c1 := cell_of_row _ _ 1 _ _ _ hpr
      have c2 := cell_of_row _ _ 2 _ _ _ hpr
      have c3 := cell_of_row _ _ 3 _ _ _ hpr
      have hl : (exL.take (exK 0)).length = 0 := rfl
      rw [hl] at hv6
      subst hv6
      have hba := alloc_below wr (Obj.cells #[.int .i64 130, .slice (some ⟨w2.heap.size, 0, none⟩) 2 2, .bool true, .func (Fn.func 52) #[] #[]] 59)
      have hna := heap_alloc_new wr (Obj.cells #[.int .i64 130, .slice (some ⟨w2.heap.size, 0, none⟩) 2 2, .bool true, .func (Fn.func 52) #[] #[]] 59)
      have hza := alloc_size wr (Obj.cells #[.int .i64 130, .slice (some ⟨w2.heap.size, 0, none⟩) 2 2, .bool true, .func (Fn.func 52) #[] #[]] 59)
      have HM := Lib.hid (ex_kind (wr.alloc (Obj.cells #[.int .i64 130, .slice (some ⟨w2.heap.size, 0, none⟩) 2 2, .bool true, .func (Fn.func 52) #[] #[]] 59)))
      have HBA := Lib.hid hba
      have HNA := Lib.hid hna
      have HZA := Lib.hid hza
      clear hba hna hza hpr hfx hl
      go_wp2_with fail
      refine HM.out.mono ?_
      rintro e w5 ⟨v5, rfl, hf5, hb5⟩
      obtain ⟨A5, c5, rfl, _⟩ := id hf5.1
      have hb05 := HBA.out.trans (hb5.mono HBA.out.size)
      have hs5 := hb05.size
      have hx5 := (hb05.block w1.heap.size (by omega)).trans HX.out
      have HK5 := Lib.hid (HKB.out.trans (Kb.of_below hb05))
      have HO5 := Lib.hid (HO.out.later hb05)
      have hp5 := (hb5.block wr.heap.size (by rw [HZA.out]; omega)).trans HNA.out
      have p0 := cell_of_row _ _ 0 _ _ _ hp5
      have y2 := cell_of_row _ _ 2 _ _ _ hx5
      have hs5' := hb5.size
      rw [HZA.out] at hs5'
      have hll : ([2] : List UInt8).length = 1 := rfl
      rw [hll] at hf5 ⊢
      clear hll
      have hba5 := alloc_below w5 (Obj.cells #[.int .i64 130, .slice A5 1 c5, .slice none 0 0] 53)
      have HO7 := Lib.hid (HO5.out.later hba5)
      have HF7 := Lib.hid ((hf5.more (lo' := w3.heap.size) (by rw [HZA.out]; omega)).on hba5)
      have HNE := Lib.hid (show 0 < ([2] : List UInt8).length → (Value.slice A5 1 c5).ownBlock ≠ (Value.slice A6 0 c6).ownBlock from fun hp e => by obtain ⟨bb, e1, e2⟩ := hf5.2.out hp; have e3 := (HO.out.ltB bb (e.symm.trans e1)).2; rw [HZA.out] at e2; omega)
      have HK7 := Lib.hid (HK5.out.trans (Kb.of_below hba5))
      have hx7 := (hba5.block w1.heap.size (by omega)).trans hx5
      have HX7 := Lib.hid hx7
      have hl6 : (exL.take (exK 0)).length ≤ 1000 := by show 0 ≤ 1000; omega
      have hlt5 : w1.heap.size < w5.heap.size := by omega
      have hlt6 : wr.heap.size < w5.heap.size := by omega
      have hb6s : w3.heap.size ≤ (w5.alloc (Obj.cells #[.int .i64 130, .slice A5 1 c5, .slice none 0 0] 53)).heap.size := by rw [alloc_size]; omega
      have HBS6 := Lib.hid hb6s
      have HL6 := Lib.hid hl6
      clear hx5 hx7 hf5 hb5 hb05 hp5 hba5 hl6 hb6s
      go_wp2_with (at_builtin; refine wpList_appG2 rfl _ _ rfl w3.heap.size _ (exL.take (exK 0)) 130 _ [2] w5.heap.size rfl rfl HO7.out HF7.out HNE.out (heap_alloc_new _ _) HL6.out HBS6.out ?_; intro v7 w7 ho7 hb7; have hx8 := (hb7.block w1.heap.size (by omega)).trans HX7.out; have z2 := cell_of_row _ _ 2 _ _ _ hx8; have z3 := frozen_of_row _ _ 2 _ _ hx8; obtain ⟨A7, c7, hv7⟩ := ho7.value; have hl7 : (exL.take (exK 0) ++ [(130, [2])]).length = 1 := rfl; rw [hl7] at hv7; subst hv7; have HX8 := Lib.hid hx8; have HO8 := Lib.hid ho7; have HB8 := Lib.hid hb7; clear hx8 ho7 hb7 hl7)
      go_roundw
      case rel => exact ⟨1, .slice A7 1 c7, by omega, by go_num, HO8.out.set (by omega) _, row3_set2 _ _ _ _ _ _ _ HX8.out, (HK7.out.below2 HB8.out).set _ _⟩
      case measure => simp [intOf]
    · have c0 := cell_of_row _ _ 4 _ _ _ hpr
      have c1 := cell_of_row _ _ 5 _ _ _ hpr
      have c2 := cell_of_row _ _ 6 _ _ _ hpr
      have c3 := cell_of_row _ _ 7 _ _ _ hpr
      have hl : (exL.take (exK 1)).length = 1 := rfl
      rw [hl] at hv6
      subst hv6
      have hba := alloc_below wr (Obj.cells #[.int .i64 131, .slice (some ⟨w2.heap.size + 1, 0, none⟩) 1 1, .bool true, .func (Fn.func 53) #[] #[]] 59)
      have hna := heap_alloc_new wr (Obj.cells #[.int .i64 131, .slice (some ⟨w2.heap.size + 1, 0, none⟩) 1 1, .bool true, .func (Fn.func 53) #[] #[]] 59)
      have hza := alloc_size wr (Obj.cells #[.int .i64 131, .slice (some ⟨w2.heap.size + 1, 0, none⟩) 1 1, .bool true, .func (Fn.func 53) #[] #[]] 59)
      have HM := Lib.hid (ex_id (wr.alloc (Obj.cells #[.int .i64 131, .slice (some ⟨w2.heap.size + 1, 0, none⟩) 1 1, .bool true, .func (Fn.func 53) #[] #[]] 59)))
      have HBA := Lib.hid hba
      have HNA := Lib.hid hna
      have HZA := Lib.hid hza
      clear hba hna hza hpr hfx hl
      go_wp2_with fail
      refine HM.out.mono ?_
      rintro e w5 ⟨v5, rfl, hf5, hb5⟩
      obtain ⟨A5, c5, rfl, _⟩ := id hf5.1
      have hb05 := HBA.out.trans (hb5.mono HBA.out.size)
      have hs5 := hb05.size
      have hx5 := (hb05.block w1.heap.size (by omega)).trans HX.out
      have HK5 := Lib.hid (HKB.out.trans (Kb.of_below hb05))
      have HO5 := Lib.hid (HO.out.later hb05)
      have hp5 := (hb5.block wr.heap.size (by rw [HZA.out]; omega)).trans HNA.out
      have p0 := cell_of_row _ _ 0 _ _ _ hp5
      have y2 := cell_of_row _ _ 2 _ _ _ hx5
      have hs5' := hb5.size
      rw [HZA.out] at hs5'
      have hll : ([47, 1] : List UInt8).length = 2 := rfl
      rw [hll] at hf5 ⊢
      clear hll
      have hba5 := alloc_below w5 (Obj.cells #[.int .i64 131, .slice A5 2 c5, .slice none 0 0] 53)
      have HO7 := Lib.hid (HO5.out.later hba5)
      have HF7 := Lib.hid ((hf5.more (lo' := w3.heap.size) (by rw [HZA.out]; omega)).on hba5)
      have HNE := Lib.hid (show 0 < ([47, 1] : List UInt8).length → (Value.slice A5 2 c5).ownBlock ≠ (Value.slice A6 1 c6).ownBlock from fun hp e => by obtain ⟨bb, e1, e2⟩ := hf5.2.out hp; have e3 := (HO.out.ltB bb (e.symm.trans e1)).2; rw [HZA.out] at e2; omega)
      have HK7 := Lib.hid (HK5.out.trans (Kb.of_below hba5))
      have hx7 := (hba5.block w1.heap.size (by omega)).trans hx5
      have HX7 := Lib.hid hx7
      have hl6 : (exL.take (exK 1)).length ≤ 1000 := by show 1 ≤ 1000; omega
      have hlt5 : w1.heap.size < w5.heap.size := by omega
      have hlt6 : wr.heap.size < w5.heap.size := by omega
      have hb6s : w3.heap.size ≤ (w5.alloc (Obj.cells #[.int .i64 131, .slice A5 2 c5, .slice none 0 0] 53)).heap.size := by rw [alloc_size]; omega
      have HBS6 := Lib.hid hb6s
      have HL6 := Lib.hid hl6
      clear hx5 hx7 hf5 hb5 hb05 hp5 hba5 hl6 hb6s
      go_wp2_with (at_builtin; refine wpList_appG2 rfl _ _ rfl w3.heap.size _ (exL.take (exK 1)) 131 _ [47, 1] w5.heap.size rfl rfl HO7.out HF7.out HNE.out (heap_alloc_new _ _) HL6.out HBS6.out ?_; intro v7 w7 ho7 hb7; have hx8 := (hb7.block w1.heap.size (by omega)).trans HX7.out; have z2 := cell_of_row _ _ 2 _ _ _ hx8; have z3 := frozen_of_row _ _ 2 _ _ hx8; obtain ⟨A7, c7, hv7⟩ := ho7.value; have hl7 : (exL.take (exK 1) ++ [(131, [47, 1])]).length = 2 := rfl; rw [hl7] at hv7; subst hv7; have HX8 := Lib.hid hx8; have HO8 := Lib.hid ho7; have HB8 := Lib.hid hb7; clear hx8 ho7 hb7 hl7)
      go_roundw
      case rel => exact ⟨2, .slice A7 2 c7, by omega, by go_num, HO8.out.set (by omega) _, row3_set2 _ _ _ _ _ _ _ HX8.out, (HK7.out.below2 HB8.out).set _ _⟩
      case measure => simp [intOf]
    · have c0 := cell_of_row _ _ 8 _ _ _ hpr
      have c1 := cell_of_row _ _ 9 _ _ _ hpr
      have c2 := cell_of_row _ _ 10 _ _ _ hpr
      have c3 := cell_of_row _ _ 11 _ _ _ hpr
      have hl : (exL.take (exK 2)).length = 2 := rfl
      rw [hl] at hv6
      subst hv6
      have hba := alloc_below wr (Obj.cells #[.int .i64 132, .slice none 0 0, .bool false, .func (Fn.func 54) #[] #[]] 59)
      have hna := heap_alloc_new wr (Obj.cells #[.int .i64 132, .slice none 0 0, .bool false, .func (Fn.func 54) #[] #[]] 59)
      have hza := alloc_size wr (Obj.cells #[.int .i64 132, .slice none 0 0, .bool false, .func (Fn.func 54) #[] #[]] 59)
      have HM := Lib.hid (ex_name (wr.alloc (Obj.cells #[.int .i64 132, .slice none 0 0, .bool false, .func (Fn.func 54) #[] #[]] 59)))
      have HBA := Lib.hid hba
      have HNA := Lib.hid hna
      have HZA := Lib.hid hza
      clear hba hna hza hpr hfx hl
      go_wp2_with fail
      refine HM.out.mono ?_
      rintro e w5 ⟨v5, rfl, hf5, hb5⟩
      obtain ⟨A5, c5, rfl, _⟩ := id hf5.1
      have hb05 := HBA.out.trans (hb5.mono HBA.out.size)
      have hs5 := hb05.size
      have hx5 := (hb05.block w1.heap.size (by omega)).trans HX.out
      have HK5 := Lib.hid (HKB.out.trans (Kb.of_below hb05))
      have HO5 := Lib.hid (HO.out.later hb05)
      have HX5 := Lib.hid hx5
      clear hx5 hf5 hb5 hb05
      go_wp2_with fail
      go_roundw
      case rel => exact ⟨3, .slice A6 2 c6, by omega, by go_num, HO5, HX5, HK5⟩
      case measure => simp [intOf]
    · have c0 := cell_of_row _ _ 12 _ _ _ hpr
      have c1 := cell_of_row _ _ 13 _ _ _ hpr
      have c2 := cell_of_row _ _ 14 _ _ _ hpr
      have c3 := cell_of_row _ _ 15 _ _ _ hpr
      have hl : (exL.take (exK 3)).length = 2 := rfl
      rw [hl] at hv6
      subst hv6
      have hba := alloc_below wr (Obj.cells #[.int .i64 128, .slice (some ⟨w2.heap.size + 1 + 1, 0, none⟩) 1 1, .bool false, .func (Fn.func 55) #[] #[]] 59)
      have hna := heap_alloc_new wr (Obj.cells #[.int .i64 128, .slice (some ⟨w2.heap.size + 1 + 1, 0, none⟩) 1 1, .bool false, .func (Fn.func 55) #[] #[]] 59)
      have hza := alloc_size wr (Obj.cells #[.int .i64 128, .slice (some ⟨w2.heap.size + 1 + 1, 0, none⟩) 1 1, .bool false, .func (Fn.func 55) #[] #[]] 59)
      have HM := Lib.hid (ex_size (wr.alloc (Obj.cells #[.int .i64 128, .slice (some ⟨w2.heap.size + 1 + 1, 0, none⟩) 1 1, .bool false, .func (Fn.func 55) #[] #[]] 59)))
      have HBA := Lib.hid hba
      have HNA := Lib.hid hna
      have HZA := Lib.hid hza
      clear hba hna hza hpr hfx hl
      go_wp2_with fail
      refine HM.out.mono ?_
      rintro e w5 ⟨v5, rfl, hf5, hb5⟩
      obtain ⟨A5, c5, rfl, _⟩ := id hf5.1
      have hb05 := HBA.out.trans (hb5.mono HBA.out.size)
      have hs5 := hb05.size
      have hx5 := (hb05.block w1.heap.size (by omega)).trans HX.out
      have HK5 := Lib.hid (HKB.out.trans (Kb.of_below hb05))
      have HO5 := Lib.hid (HO.out.later hb05)
      have hp5 := (hb5.block wr.heap.size (by rw [HZA.out]; omega)).trans HNA.out
      have p0 := cell_of_row _ _ 0 _ _ _ hp5
      have y2 := cell_of_row _ _ 2 _ _ _ hx5
      have hs5' := hb5.size
      rw [HZA.out] at hs5'
      have hll : ([0, 32] : List UInt8).length = 2 := rfl
      rw [hll] at hf5 ⊢
      clear hll
      have hba5 := alloc_below w5 (Obj.cells #[.int .i64 128, .slice A5 2 c5, .slice none 0 0] 53)
      have HO7 := Lib.hid (HO5.out.later hba5)
      have HF7 := Lib.hid ((hf5.more (lo' := w3.heap.size) (by rw [HZA.out]; omega)).on hba5)
      have HNE := Lib.hid (show 0 < ([0, 32] : List UInt8).length → (Value.slice A5 2 c5).ownBlock ≠ (Value.slice A6 2 c6).ownBlock from fun hp e => by obtain ⟨bb, e1, e2⟩ := hf5.2.out hp; have e3 := (HO.out.ltB bb (e.symm.trans e1)).2; rw [HZA.out] at e2; omega)
      have HK7 := Lib.hid (HK5.out.trans (Kb.of_below hba5))
      have hx7 := (hba5.block w1.heap.size (by omega)).trans hx5
      have HX7 := Lib.hid hx7
      have hl6 : (exL.take (exK 3)).length ≤ 1000 := by show 2 ≤ 1000; omega
      have hlt5 : w1.heap.size < w5.heap.size := by omega
      have hlt6 : wr.heap.size < w5.heap.size := by omega
      have hb6s : w3.heap.size ≤ (w5.alloc (Obj.cells #[.int .i64 128, .slice A5 2 c5, .slice none 0 0] 53)).heap.size := by rw [alloc_size]; omega
      have HBS6 := Lib.hid hb6s
      have HL6 := Lib.hid hl6
      clear hx5 hx7 hf5 hb5 hb05 hp5 hba5 hl6 hb6s
      go_wp2_with (at_builtin; refine wpList_appG2 rfl _ _ rfl w3.heap.size _ (exL.take (exK 3)) 128 _ [0, 32] w5.heap.size rfl rfl HO7.out HF7.out HNE.out (heap_alloc_new _ _) HL6.out HBS6.out ?_; intro v7 w7 ho7 hb7; have hx8 := (hb7.block w1.heap.size (by omega)).trans HX7.out; have z2 := cell_of_row _ _ 2 _ _ _ hx8; have z3 := frozen_of_row _ _ 2 _ _ hx8; obtain ⟨A7, c7, hv7⟩ := ho7.value; have hl7 : (exL.take (exK 3) ++ [(128, [0, 32])]).length = 3 := rfl; rw [hl7] at hv7; subst hv7; have HX8 := Lib.hid hx8; have HO8 := Lib.hid ho7; have HB8 := Lib.hid hb7; clear hx8 ho7 hb7 hl7)
      go_roundw
      case rel => exact ⟨4, .slice A7 3 c7, by omega, by go_num, HO8.out.set (by omega) _, row3_set2 _ _ _ _ _ _ _ HX8.out, (HK7.out.below2 HB8.out).set _ _⟩
      case measure => simp [intOf]
    · have c0 := cell_of_row _ _ 16 _ _ _ hpr
      have c1 := cell_of_row _ _ 17 _ _ _ hpr
      have c2 := cell_of_row _ _ 18 _ _ _ hpr
      have c3 := cell_of_row _ _ 19 _ _ _ hpr
      have hl : (exL.take (exK 4)).length = 3 := rfl
      rw [hl] at hv6
      subst hv6
      have hba := alloc_below wr (Obj.cells #[.int .i64 136, .slice (some ⟨w2.heap.size + 1 + 1 + 1, 0, none⟩) 1 1, .bool false, .func (Fn.func 56) #[] #[]] 59)
      have hna := heap_alloc_new wr (Obj.cells #[.int .i64 136, .slice (some ⟨w2.heap.size + 1 + 1 + 1, 0, none⟩) 1 1, .bool false, .func (Fn.func 56) #[] #[]] 59)
      have hza := alloc_size wr (Obj.cells #[.int .i64 136, .slice (some ⟨w2.heap.size + 1 + 1 + 1, 0, none⟩) 1 1, .bool false, .func (Fn.func 56) #[] #[]] 59)
      have HM := Lib.hid (ex_short (wr.alloc (Obj.cells #[.int .i64 136, .slice (some ⟨w2.heap.size + 1 + 1 + 1, 0, none⟩) 1 1, .bool false, .func (Fn.func 56) #[] #[]] 59)))
      have HBA := Lib.hid hba
      have HNA := Lib.hid hna
      have HZA := Lib.hid hza
      clear hba hna hza hpr hfx hl
      go_wp2_with fail
      refine HM.out.mono ?_
      rintro e w5 ⟨v5, rfl, hf5, hb5⟩
      obtain ⟨A5, c5, rfl, _⟩ := id hf5.1
      have hb05 := HBA.out.trans (hb5.mono HBA.out.size)
      have hs5 := hb05.size
      have hx5 := (hb05.block w1.heap.size (by omega)).trans HX.out
      have HK5 := Lib.hid (HKB.out.trans (Kb.of_below hb05))
      have HO5 := Lib.hid (HO.out.later hb05)
      have hp5 := (hb5.block wr.heap.size (by rw [HZA.out]; omega)).trans HNA.out
      have p0 := cell_of_row _ _ 0 _ _ _ hp5
      have y2 := cell_of_row _ _ 2 _ _ _ hx5
      have hs5' := hb5.size
      rw [HZA.out] at hs5'
      have hll : ([1] : List UInt8).length = 1 := rfl
      rw [hll] at hf5 ⊢
      clear hll
      have hba5 := alloc_below w5 (Obj.cells #[.int .i64 136, .slice A5 1 c5, .slice none 0 0] 53)
      have HO7 := Lib.hid (HO5.out.later hba5)
      have HF7 := Lib.hid ((hf5.more (lo' := w3.heap.size) (by rw [HZA.out]; omega)).on hba5)
      have HNE := Lib.hid (show 0 < ([1] : List UInt8).length → (Value.slice A5 1 c5).ownBlock ≠ (Value.slice A6 3 c6).ownBlock from fun hp e => by obtain ⟨bb, e1, e2⟩ := hf5.2.out hp; have e3 := (HO.out.ltB bb (e.symm.trans e1)).2; rw [HZA.out] at e2; omega)
      have HK7 := Lib.hid (HK5.out.trans (Kb.of_below hba5))
      have hx7 := (hba5.block w1.heap.size (by omega)).trans hx5
      have HX7 := Lib.hid hx7
      have hl6 : (exL.take (exK 4)).length ≤ 1000 := by show 3 ≤ 1000; omega
      have hlt5 : w1.heap.size < w5.heap.size := by omega
      have hlt6 : wr.heap.size < w5.heap.size := by omega
      have hb6s : w3.heap.size ≤ (w5.alloc (Obj.cells #[.int .i64 136, .slice A5 1 c5, .slice none 0 0] 53)).heap.size := by rw [alloc_size]; omega
      have HBS6 := Lib.hid hb6s
      have HL6 := Lib.hid hl6
      clear hx5 hx7 hf5 hb5 hb05 hp5 hba5 hl6 hb6s
      go_wp2_with (at_builtin; refine wpList_appG2 rfl _ _ rfl w3.heap.size _ (exL.take (exK 4)) 136 _ [1] w5.heap.size rfl rfl HO7.out HF7.out HNE.out (heap_alloc_new _ _) HL6.out HBS6.out ?_; intro v7 w7 ho7 hb7; have hx8 := (hb7.block w1.heap.size (by omega)).trans HX7.out; have z2 := cell_of_row _ _ 2 _ _ _ hx8; have z3 := frozen_of_row _ _ 2 _ _ hx8; obtain ⟨A7, c7, hv7⟩ := ho7.value; have hl7 : (exL.take (exK 4) ++ [(136, [1])]).length = 4 := rfl; rw [hl7] at hv7; subst hv7; have HX8 := Lib.hid hx8; have HO8 := Lib.hid ho7; have HB8 := Lib.hid hb7; clear hx8 ho7 hb7 hl7)
      go_roundw
      case rel => exact ⟨5, .slice A7 4 c7, by omega, by go_num, HO8.out.set (by omega) _, row3_set2 _ _ _ _ _ _ _ HX8.out, (HK7.out.below2 HB8.out).set _ _⟩
      case measure => simp [intOf]
    · have c0 := cell_of_row _ _ 20 _ _ _ hpr
      have c1 := cell_of_row _ _ 21 _ _ _ hpr
      have c2 := cell_of_row _ _ 22 _ _ _ hpr
      have c3 := cell_of_row _ _ 23 _ _ _ hpr
      have hl : (exL.take (exK 5)).length = 4 := rfl
      rw [hl] at hv6
      subst hv6
      have hba := alloc_below wr (Obj.cells #[.int .i64 138, .slice (some ⟨w2.heap.size + 1 + 1 + 1 + 1, 0, none⟩) 1 1, .bool true, .func (Fn.func 57) #[] #[]] 59)
      have hna := heap_alloc_new wr (Obj.cells #[.int .i64 138, .slice (some ⟨w2.heap.size + 1 + 1 + 1 + 1, 0, none⟩) 1 1, .bool true, .func (Fn.func 57) #[] #[]] 59)
      have hza := alloc_size wr (Obj.cells #[.int .i64 138, .slice (some ⟨w2.heap.size + 1 + 1 + 1 + 1, 0, none⟩) 1 1, .bool true, .func (Fn.func 57) #[] #[]] 59)
      have HM := Lib.hid (ex_state (wr.alloc (Obj.cells #[.int .i64 138, .slice (some ⟨w2.heap.size + 1 + 1 + 1 + 1, 0, none⟩) 1 1, .bool true, .func (Fn.func 57) #[] #[]] 59)))
      have HBA := Lib.hid hba
      have HNA := Lib.hid hna
      have HZA := Lib.hid hza
      clear hba hna hza hpr hfx hl
      go_wp2_with fail
      refine HM.out.mono ?_
      rintro e w5 ⟨v5, rfl, hf5, hb5⟩
      obtain ⟨A5, c5, rfl, _⟩ := id hf5.1
      have hb05 := HBA.out.trans (hb5.mono HBA.out.size)
      have hs5 := hb05.size
      have hx5 := (hb05.block w1.heap.size (by omega)).trans HX.out
      have HK5 := Lib.hid (HKB.out.trans (Kb.of_below hb05))
      have HO5 := Lib.hid (HO.out.later hb05)
      have hp5 := (hb5.block wr.heap.size (by rw [HZA.out]; omega)).trans HNA.out
      have p0 := cell_of_row _ _ 0 _ _ _ hp5
      have y2 := cell_of_row _ _ 2 _ _ _ hx5
      have hs5' := hb5.size
      rw [HZA.out] at hs5'
      have hll : ([1] : List UInt8).length = 1 := rfl
      rw [hll] at hf5 ⊢
      clear hll
      have hba5 := alloc_below w5 (Obj.cells #[.int .i64 138, .slice A5 1 c5, .slice none 0 0] 53)
      have HO7 := Lib.hid (HO5.out.later hba5)
      have HF7 := Lib.hid ((hf5.more (lo' := w3.heap.size) (by rw [HZA.out]; omega)).on hba5)
      have HNE := Lib.hid (show 0 < ([1] : List UInt8).length → (Value.slice A5 1 c5).ownBlock ≠ (Value.slice A6 4 c6).ownBlock from fun hp e => by obtain ⟨bb, e1, e2⟩ := hf5.2.out hp; have e3 := (HO.out.ltB bb (e.symm.trans e1)).2; rw [HZA.out] at e2; omega)
      have HK7 := Lib.hid (HK5.out.trans (Kb.of_below hba5))
      have hx7 := (hba5.block w1.heap.size (by omega)).trans hx5
      have HX7 := Lib.hid hx7
      have hl6 : (exL.take (exK 5)).length ≤ 1000 := by show 4 ≤ 1000; omega
      have hlt5 : w1.heap.size < w5.heap.size := by omega
      have hlt6 : wr.heap.size < w5.heap.size := by omega
      have hb6s : w3.heap.size ≤ (w5.alloc (Obj.cells #[.int .i64 138, .slice A5 1 c5, .slice none 0 0] 53)).heap.size := by rw [alloc_size]; omega
      have HBS6 := Lib.hid hb6s
      have HL6 := Lib.hid hl6
      clear hx5 hx7 hf5 hb5 hb05 hp5 hba5 hl6 hb6s
      go_wp2_with (at_builtin; refine wpList_appG2 rfl _ _ rfl w3.heap.size _ (exL.take (exK 5)) 138 _ [1] w5.heap.size rfl rfl HO7.out HF7.out HNE.out (heap_alloc_new _ _) HL6.out HBS6.out ?_; intro v7 w7 ho7 hb7; have hx8 := (hb7.block w1.heap.size (by omega)).trans HX7.out; have z2 := cell_of_row _ _ 2 _ _ _ hx8; have z3 := frozen_of_row _ _ 2 _ _ hx8; obtain ⟨A7, c7, hv7⟩ := ho7.value; have hl7 : (exL.take (exK 5) ++ [(138, [1])]).length = 5 := rfl; rw [hl7] at hv7; subst hv7; have HX8 := Lib.hid hx8; have HO8 := Lib.hid ho7; have HB8 := Lib.hid hb7; clear hx8 ho7 hb7 hl7)
      go_roundw
      case rel => exact ⟨6, .slice A7 5 c7, by omega, by go_num, HO8.out.set (by omega) _, row3_set2 _ _ _ _ _ _ _ HX8.out, (HK7.out.below2 HB8.out).set _ _⟩
      case measure => simp [intOf]
    · have c0 := cell_of_row _ _ 24 _ _ _ hpr
      have c1 := cell_of_row _ _ 25 _ _ _ hpr
      have c2 := cell_of_row _ _ 26 _ _ _ hpr
      have c3 := cell_of_row _ _ 27 _ _ _ hpr
      have hl : (exL.take (exK 6)).length = 5 := rfl
      rw [hl] at hv6
      subst hv6
      have hba := alloc_below wr (Obj.cells #[.int .i64 134, .slice none 0 0, .bool false, .func (Fn.func 58) #[] #[]] 59)
      have hna := heap_alloc_new wr (Obj.cells #[.int .i64 134, .slice none 0 0, .bool false, .func (Fn.func 58) #[] #[]] 59)
      have hza := alloc_size wr (Obj.cells #[.int .i64 134, .slice none 0 0, .bool false, .func (Fn.func 58) #[] #[]] 59)
      have HM := Lib.hid (ex_rules (wr.alloc (Obj.cells #[.int .i64 134, .slice none 0 0, .bool false, .func (Fn.func 58) #[] #[]] 59)) ((HT3.out.below (HKB.out.below (B := 1) (by have := HT1.out.size; omega) (by omega)) (by omega)).on hba))
      have HBA := Lib.hid hba
      have HNA := Lib.hid hna
      have HZA := Lib.hid hza
      clear hba hna hza hpr hfx hl
      go_wp2_with fail
      refine HM.out.mono ?_
      rintro e w5 ⟨v5, rfl, hf5, hb5⟩
      obtain ⟨A5, c5, rfl, _⟩ := id hf5.1
      have hb05 := HBA.out.trans (hb5.mono HBA.out.size)
      have hs5 := hb05.size
      have hx5 := (hb05.block w1.heap.size (by omega)).trans HX.out
      have HK5 := Lib.hid (HKB.out.trans (Kb.of_below hb05))
      have HO5 := Lib.hid (HO.out.later hb05)
      have HX5 := Lib.hid hx5
      clear hx5 hf5 hb5 hb05
      go_wp2_with fail
      go_roundw
      case rel => exact ⟨7, .slice A6 5 c6, by omega, by go_num, HO5, HX5, HK5⟩
      case measure => simp [intOf]
    · have htl := HO.out.tl
      have hl : (exL.take (exK 7)).length = 5 := rfl
      rw [hl] at hv6
      subst hv6
      have he5 : exL.take (exK 7) = exL := rfl
      rw [he5] at htl
      have hone := TL.one wr 98 _ _ htl
      have hba := alloc_below wr (Obj.cells #[.int .i64 98, .slice none 0 0, .slice A6 5 c6] 53)
      have hpe := pencode_any [exT] _ _ hone ex_encL
      rw [ex_encM, ex_encE] at hpe
      have HPE := Lib.hid hpe
      have HBA := Lib.hid hba
      clear htl hl he5 hone hba hpe hpr hfx
      go_wp2_with fail
      refine HPE.out.mono ?_
      rintro e w8 ⟨v8, rfl, hsl8, hb8⟩
      have HB8 := Lib.hid (HBW.out.trans ((HBA.out.trans (hb8.mono HBA.out.size)).mono HBW.out.size))
      obtain ⟨A9, c9, rfl, _⟩ := id hsl8
      have HSL8 := Lib.hid hsl8
      clear hsl8 hb8
      go_wp2_with fail
      go_ret2
      exact ⟨_, rfl, HSL8.out, HB8.out⟩
end Go.Proofs.YtkjcafhaenkpbaaDoor
