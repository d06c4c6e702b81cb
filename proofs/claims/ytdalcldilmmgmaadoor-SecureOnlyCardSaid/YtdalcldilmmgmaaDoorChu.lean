/-
  The walks of key, and of the calls on a channel that New has not made.
-/
import Derived.Test.YtdalcldilmmgmaaDoorCht
namespace Go.Proofs.YtdalcldilmmgmaaDoor
set_option linter.unusedVariables false
set_option linter.unusedSimpArgs false
open Go.RowKit

theorem key_round (b : UInt8) {j : Nat} (hj : j < 16) : (List.replicate j b ++ List.replicate (16 - j) 0).set j b = List.replicate (j + 1) b ++ List.replicate (16 - (j + 1)) 0 := by
  obtain ⟨n, hn⟩ : ∃ n, 16 - j = n + 1 := ⟨15 - j, by omega⟩
  rw [hn, show 16 - (j + 1) = n by omega, List.set_append_right _ _ (by simp)]
  simp only [List.length_replicate, Nat.sub_self, List.replicate_succ, List.set_cons_zero]
  rw [show b :: List.replicate j b = List.replicate j b ++ [b] by rw [← List.replicate_succ, List.replicate_succ'], List.append_assoc]
  rfl
set_option maxRecDepth 100000 in
set_option maxHeartbeats 800000 in
theorem pkey_any (b : UInt8) (w : World) : Calls Tryd.prog 24 #[.int .u8 (b.toNat : Int)] w (GiV w (List.replicate 16 b)) := by
  have HF : Hid (∀ w', Below w.heap.size w w' → OB w' w.heap.size (.slice (some ⟨w.heap.size, 0, none⟩) 16 16) (List.replicate 16 b) → GiV w (List.replicate 16 b) (.returned (.slice (some ⟨w.heap.size, 0, none⟩) 16 16)) w') := fun w' hb ho => ⟨_, rfl, ho.sl, hb⟩
  go_enter Tryd.func24, Tryd.ntmps24
  go_wp2_with (at_make; refine wpList_mk (by rfl) _ _ (by rfl) .i64 .i64 _ _ 16 (by rfl) (by rfl) (by rfl) (by rfl) (by omega) ?_; intro w1 hown1 hb1')
  go_loopw [4] (fun i wr => ∃ j : Nat, j ≤ 16 ∧ i = .int .i64 j ∧ OB wr w.heap.size (.slice (some ⟨w.heap.size, 0, none⟩) 16 16) (List.replicate j b ++ List.replicate (16 - j) 0) ∧ Below w.heap.size w wr) (fun i _ => 16 - (intOf i).toNat)
  case atStart => exact ⟨0, Nat.zero_le _, rfl, by simpa using hown1, hb1'⟩
  case round =>
    obtain ⟨j, hj, rfl, hown, hbel⟩ := hrel
    by_cases h1 : j < 16
    · have g3 := hown.cellAt j (by simp; omega)
      have g4 := hown.frozenAt j
      have HO := Lib.hid (hown.stored j b _ rfl)
      rw [key_round b h1] at HO
      have HB := Lib.hid hbel
      have HJ := Lib.hid h1
      clear hown hbel
      go_wp2
      go_roundw
      case rel => exact ⟨j + 1, by have := HJ.out; omega, by go_num, HO.out, HB.out.setCell (p := ⟨w.heap.size, j, none⟩) (Nat.le_refl _) _⟩
      case measure => have := HJ.out; simp [intOf]; omega
    · have hjk : j = 16 := by omega
      subst hjk
      have HO := Lib.hid hown
      have HB := Lib.hid hbel
      clear hown hbel
      go_wp2
      go_ret
      exact HF.out _ HB.out (by simpa using HO.out)

/-- A channel that New has not made. -/
def UM (w : World) (v : Value) : Prop := v = .pointer none ∨ ∃ g s, v = .pointer (some ⟨g, 0, none⟩) ∧ CH w g s ∧ s.cv.length = 0
theorem UM.on {w w' : World} {v : Value} (h : UM w v) (hb : Below w.heap.size w w') : UM w' v := h.imp id fun ⟨g, s, e, hc, h0⟩ => ⟨g, s, e, hc.below hb, h0⟩
theorem pmade_un (v : Value) (w : World) (h : UM w v) : Calls Tryd.prog 25 #[v] w fun e w' => e = .returned (.bool false) ∧ w = w' := by
  rcases h with rfl | ⟨g, s, rfl, hc, h0⟩
  · exact pmade_nil w
  · have := pmade_any g s w hc
    rw [h0] at this
    exact this

set_option maxRecDepth 100000 in
set_option maxHeartbeats 1600000 in
theorem pwrap_un (c : Cm) (v : Value) (A : Option Addr) (n k : Nat) (w : World) (h : UM w v) :
    Calls Tryd.prog 10 #[v, c.val (.slice A n k)] w fun e w' => e = .returned (.tuple #[(⟨0, 0, 0, 0, [], 0, false⟩ : Cm).val (.slice none 0 0), .int .i64 31]) ∧ Below w.heap.size w w' := by
  have HM := Lib.hid fun W (hW : Below w.heap.size w W) => pmade_un v W (h.on hW)
  unfold Cm.val
  have hb := alloc2_below w (Obj.cells #[.int .i64 c.cla, .int .i64 c.ins, .int .i64 c.p1, .int .i64 c.p2, .slice A n k, .int .i64 c.le, .bool c.long] 30) (Obj.cells #[.int .i64 0, .int .i64 0, .int .i64 0, .int .i64 0, .slice none 0 0, .int .i64 0, .bool false] 30)
  have HB := Lib.hid hb
  have HM2 := Lib.hid (HM.out _ hb)
  have HN2 := Lib.hid (heap2_new w (Obj.cells #[.int .i64 c.cla, .int .i64 c.ins, .int .i64 c.p1, .int .i64 c.p2, .slice A n k, .int .i64 c.le, .bool c.long] 30) (Obj.cells #[.int .i64 0, .int .i64 0, .int .i64 0, .int .i64 0, .slice none 0 0, .int .i64 0, .bool false] 30))
  clear hb h HM
  go_enter Tryd.func10, Tryd.ntmps10
  go_wp2_with (go_at_call 25; refine HM2.out.mono ?_; rintro e w' ⟨rfl, rfl⟩)
  exact bodyPost_ret (results_cell2 rfl _ _ (w.heap.size + 1) 30 #[.int .i64 0, .int .i64 0, .int .i64 0, .int .i64 0, .slice none 0 0, .int .i64 0, .bool false] (0, 0) _ rfl HN2.out Tryd.underlying30 rfl (by kernel_rfl)) rfl ⟨rfl, HB.out⟩

set_option maxRecDepth 100000 in
set_option maxHeartbeats 1600000 in
theorem punwrap_un (c : Cm) (v : Value) (A : Option Addr) (n k : Nat) (w : World) (h : UM w v) :
    Calls Tryd.prog 11 #[v, c.val (.slice A n k)] w fun e w' => e = .returned (.tuple #[(⟨0, 0, 0, 0, [], 0, false⟩ : Cm).val (.slice none 0 0), .int .i64 31]) ∧ Below w.heap.size w w' := by
  have HM := Lib.hid fun W (hW : Below w.heap.size w W) => pmade_un v W (h.on hW)
  unfold Cm.val
  have hb := alloc2_below w (Obj.cells #[.int .i64 c.cla, .int .i64 c.ins, .int .i64 c.p1, .int .i64 c.p2, .slice A n k, .int .i64 c.le, .bool c.long] 30) (Obj.cells #[.int .i64 0, .int .i64 0, .int .i64 0, .int .i64 0, .slice none 0 0, .int .i64 0, .bool false] 30)
  have HB := Lib.hid hb
  have HM2 := Lib.hid (HM.out _ hb)
  have HN2 := Lib.hid (heap2_new w (Obj.cells #[.int .i64 c.cla, .int .i64 c.ins, .int .i64 c.p1, .int .i64 c.p2, .slice A n k, .int .i64 c.le, .bool c.long] 30) (Obj.cells #[.int .i64 0, .int .i64 0, .int .i64 0, .int .i64 0, .slice none 0 0, .int .i64 0, .bool false] 30))
  clear hb h HM
  go_enter Tryd.func11, Tryd.ntmps11
  go_wp2_with (go_at_call 25; refine HM2.out.mono ?_; rintro e w' ⟨rfl, rfl⟩)
  exact bodyPost_ret (results_cell2 rfl _ _ (w.heap.size + 1) 30 #[.int .i64 0, .int .i64 0, .int .i64 0, .int .i64 0, .slice none 0 0, .int .i64 0, .bool false] (0, 0) _ rfl HN2.out Tryd.underlying30 rfl (by kernel_rfl)) rfl ⟨rfl, HB.out⟩

set_option maxRecDepth 100000 in
set_option maxHeartbeats 1600000 in
theorem pseal_un (c : Rs) (v : Value) (A : Option Addr) (n k : Nat) (w : World) (h : UM w v) :
    Calls Tryd.prog 14 #[v, c.val (.slice A n k)] w fun e w' => e = .returned (.tuple #[(⟨[], 0⟩ : Rs).val (.slice none 0 0), .int .i64 31]) ∧ Below w.heap.size w w' := by
  have HM := Lib.hid fun W (hW : Below w.heap.size w W) => pmade_un v W (h.on hW)
  unfold Rs.val
  have hb := alloc2_below w (Obj.cells #[.slice A n k, .int .i64 c.sw] 32) (Obj.cells #[.slice none 0 0, .int .i64 0] 32)
  have HB := Lib.hid hb
  have HM2 := Lib.hid (HM.out _ hb)
  have HN2 := Lib.hid (heap2_new w (Obj.cells #[.slice A n k, .int .i64 c.sw] 32) (Obj.cells #[.slice none 0 0, .int .i64 0] 32))
  clear hb h HM
  go_enter Tryd.func14, Tryd.ntmps14
  go_wp2_with (go_at_call 25; refine HM2.out.mono ?_; rintro e w' ⟨rfl, rfl⟩)
  exact bodyPost_ret (results_cell2 rfl _ _ (w.heap.size + 1) 32 #[.slice none 0 0, .int .i64 0] (0, 0) _ rfl HN2.out Tryd.underlying32 rfl (by kernel_rfl)) rfl ⟨rfl, HB.out⟩

set_option maxRecDepth 100000 in
set_option maxHeartbeats 1600000 in
theorem popen_un (c : Rs) (v : Value) (A : Option Addr) (n k : Nat) (w : World) (h : UM w v) :
    Calls Tryd.prog 15 #[v, c.val (.slice A n k)] w fun e w' => e = .returned (.tuple #[(⟨[], 0⟩ : Rs).val (.slice none 0 0), .int .i64 31]) ∧ Below w.heap.size w w' := by
  have HM := Lib.hid fun W (hW : Below w.heap.size w W) => pmade_un v W (h.on hW)
  unfold Rs.val
  have hb := alloc2_below w (Obj.cells #[.slice A n k, .int .i64 c.sw] 32) (Obj.cells #[.slice none 0 0, .int .i64 0] 32)
  have HB := Lib.hid hb
  have HM2 := Lib.hid (HM.out _ hb)
  have HN2 := Lib.hid (heap2_new w (Obj.cells #[.slice A n k, .int .i64 c.sw] 32) (Obj.cells #[.slice none 0 0, .int .i64 0] 32))
  clear hb h HM
  go_enter Tryd.func15, Tryd.ntmps15
  go_wp2_with (go_at_call 25; refine HM2.out.mono ?_; rintro e w' ⟨rfl, rfl⟩)
  exact bodyPost_ret (results_cell2 rfl _ _ (w.heap.size + 1) 32 #[.slice none 0 0, .int .i64 0] (0, 0) _ rfl HN2.out Tryd.underlying32 rfl (by kernel_rfl)) rfl ⟨rfl, HB.out⟩
end Go.Proofs.YtdalcldilmmgmaaDoor
