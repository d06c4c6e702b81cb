/-
  The walks of checkContent and Check of the program.
-/
import Derived.Test.YtkjcafhaenkpbaaDoorFla
namespace Go.Proofs.YtkjcafhaenkpbaaDoor
set_option linter.unusedVariables false
set_option linter.unusedSimpArgs false
open Go.RowKit

def recK (k : Int) : Bool := decide (¬ k = 1) && decide (¬ k = 2)
/-- The error of a number that a kind has, or has not. -/
def numE (n : Int) (has : Bool) (most : Int) : Int := if has then (if n < 1 ∨ most < n then 2 else 0) else (if n = 0 then 0 else 4)
theorem numE_no (n m : Int) : numE n false m = if n = 0 then 0 else 4 := by unfold numE; rw [if_neg (by simp)]
theorem numE_yes (n m : Int) : numE n true m = if n < 1 ∨ m < n then 2 else 0 := by unfold numE; rw [if_pos rfl]
def sizE (f : Fl) : Int :=
  if numE f.size (decide (f.kind = 2)) 1024 ≠ 0 then numE f.size (decide (f.kind = 2)) 1024
  else if numE f.len (recK f.kind) 254 ≠ 0 then numE f.len (recK f.kind) 254
  else if numE f.recs (recK f.kind) 254 ≠ 0 then numE f.recs (recK f.kind) 254
  else if 1024 < f.len * f.recs then 3 else 0
theorem hasr_any (k : Int) (w : World) : Calls Tryd.prog 47 #[.int .i64 k] w fun e w' => e = .returned (.bool (recK k)) ∧ w = w' := by
  by_cases h1 : k = 1
  · subst h1
    go_enter Tryd.func47, Tryd.ntmps47
    go_wp2
    go_ret
    exact ⟨rfl, rfl⟩
  · have n1 : (k == 1) = false := by simpa using h1
    have m1 : (k != 1) = true := by simpa using h1
    by_cases h2 : k = 2
    · subst h2
      go_enter Tryd.func47, Tryd.ntmps47
      go_wp2
      go_ret
      exact ⟨rfl, rfl⟩
    · have n2 : (k == 2) = false := by simpa using h2
      have m2 : (k != 2) = true := by simpa using h2
      have e : recK k = true := by unfold recK; rw [decide_eq_true h1, decide_eq_true h2]; rfl
      rw [e]
      clear e
      go_enter Tryd.func47, Tryd.ntmps47
      go_wp2
      go_ret
      exact ⟨rfl, rfl⟩
def Fl.agg (f : Fl) (A1 : Option Addr) (c1 : Nat) (A2 : Option Addr) (c2 : Nat) : Array Value := #[.int .i64 f.id, .int .i64 f.kind, .slice A1 f.name.length c1, .int .i64 f.short, .int .i64 f.size, .int .i64 f.len, .int .i64 f.recs, .int .i64 f.state, .slice A2 f.rules.length c2]
set_option maxRecDepth 100000 in
set_option maxHeartbeats 3200000 in
theorem pcont_any (f : Fl) (A1 : Option Addr) (c1 : Nat) (A2 : Option Addr) (c2 : Nat) (w : World) :
    Calls Tryd.prog 27 #[.agg #[.int .i64 f.id, .int .i64 f.kind, .slice A1 f.name.length c1, .int .i64 f.short, .int .i64 f.size, .int .i64 f.len, .int .i64 f.recs, .int .i64 f.state, .slice A2 f.rules.length c2]] w fun e w' => e = .returned (.int .i64 (sizE f)) ∧ Below w.heap.size w w' := by
  obtain ⟨id, kind, short, size, len, recs, state, name, rules⟩ := f
  simp only
  generalize name.length = n1 at *
  generalize rules.length = n2 at *
  have HR := Lib.hid fun (W : World) => hasr_any kind W
  have hsz : sizE ⟨id, kind, short, size, len, recs, state, name, rules⟩ = if numE size (decide (kind = 2)) 1024 ≠ 0 then numE size (decide (kind = 2)) 1024 else if numE len (recK kind) 254 ≠ 0 then numE len (recK kind) 254 else if numE recs (recK kind) 254 ≠ 0 then numE recs (recK kind) 254 else if 1024 < len * recs then 3 else 0 := rfl
  rw [hsz]
  clear hsz
  generalize recK kind = R at *
  have hK2 : decide (kind = 2) = (kind == 2) := rfl
  rw [hK2]
  clear hK2
  obtain ⟨E0, hE0⟩ : ∃ E, E = numE size (kind == 2) 1024 := ⟨_, rfl⟩
  obtain ⟨E1, hE1⟩ : ∃ E, E = numE len R 254 := ⟨_, rfl⟩
  obtain ⟨E2, hE2⟩ : ∃ E, E = numE recs R 254 := ⟨_, rfl⟩
  rw [← hE0, ← hE1, ← hE2]
  have H0 := Lib.hid hE0
  have H1 := Lib.hid hE1
  have H2 := Lib.hid hE2
  clear hE0 hE1 hE2
  obtain ⟨RES, hRES⟩ : ∃ r : Int, r = (if E0 ≠ 0 then E0 else if E1 ≠ 0 then E1 else if E2 ≠ 0 then E2 else if 1024 < len * recs then 3 else 0) := ⟨_, rfl⟩
  rw [← hRES]
  have HRES := Lib.hid hRES
  clear hRES
  have hb := alloc_below w (Obj.cells #[Value.int IntKind.i64 id, Value.int IntKind.i64 kind, Value.slice A1 n1 c1, Value.int IntKind.i64 short, Value.int IntKind.i64 size, Value.int IntKind.i64 len, Value.int IntKind.i64 recs, Value.int IntKind.i64 state, Value.slice A2 n2 c2] 25)
  have hn := heap_alloc_new w (Obj.cells #[Value.int IntKind.i64 id, Value.int IntKind.i64 kind, Value.slice A1 n1 c1, Value.int IntKind.i64 short, Value.int IntKind.i64 size, Value.int IntKind.i64 len, Value.int IntKind.i64 recs, Value.int IntKind.i64 state, Value.slice A2 n2 c2] 25)
  have hz := alloc_size w (Obj.cells #[Value.int IntKind.i64 id, Value.int IntKind.i64 kind, Value.slice A1 n1 c1, Value.int IntKind.i64 short, Value.int IntKind.i64 size, Value.int IntKind.i64 len, Value.int IntKind.i64 recs, Value.int IntKind.i64 state, Value.slice A2 n2 c2] 25)
  go_enter Tryd.func27, Tryd.ntmps27
  go_wp2_with fail
  generalize w.alloc (Obj.cells #[Value.int IntKind.i64 id, Value.int IntKind.i64 kind, Value.slice A1 n1 c1, Value.int IntKind.i64 short, Value.int IntKind.i64 size, Value.int IntKind.i64 len, Value.int IntKind.i64 recs, Value.int IntKind.i64 state, Value.slice A2 n2 c2] 25) = w1 at *
  have HS : Hid (∀ W, Below w1.heap.size w1 W → W.cell? ⟨w.heap.size, 1, none⟩ = some (.int .i64 kind) ∧ W.cell? ⟨w.heap.size, 4, none⟩ = some (.int .i64 size) ∧ W.cell? ⟨w.heap.size, 5, none⟩ = some (.int .i64 len) ∧ W.cell? ⟨w.heap.size, 6, none⟩ = some (.int .i64 recs)) := fun W hW => by
    have kk := (hW.block w.heap.size (by omega)).trans hn
    exact ⟨cell_of_row _ _ 1 _ _ _ kk, cell_of_row _ _ 4 _ _ _ kk, cell_of_row _ _ 5 _ _ _ kk, cell_of_row _ _ 6 _ _ _ kk⟩
  have hbd := drewN_below w1.heap.size w1 1
  have HB := Lib.hid hb
  have HZ := Lib.hid hz
  have HN := Lib.hid hn
  clear hn hz hb
  go_region_held3 (fun w' => w'.cell? ⟨w.heap.size, 1, none⟩ = some (.int .i64 kind) ∧ w'.cell? ⟨w.heap.size, 4, none⟩ = some (.int .i64 size) ∧ w'.cell? ⟨w.heap.size, 5, none⟩ = some (.int .i64 len) ∧ w'.cell? ⟨w.heap.size, 6, none⟩ = some (.int .i64 recs))
    (first
      | (go_keep; done)
      | exact HS.out _ hbd
      | exact HS.out _ (alloc_below w1 _).drew)
    (first
      | (go_at_call 47; (with_reducible refine (HR.out _).mono ?_); rintro e w3 ⟨rfl, rfl⟩))
  have hbm : Below w1.heap.size w1 (w1.alloc (Obj.cells #[Value.int IntKind.i64 size, Value.bool (kind == 2), Value.int IntKind.i64 1024, Value.int IntKind.i64 len, Value.bool R, Value.int IntKind.i64 254, Value.int IntKind.i64 recs, Value.bool R, Value.int IntKind.i64 254] 76)).drew := (alloc_below w1 _).drew
  have hrow : (w1.alloc (Obj.cells #[Value.int IntKind.i64 size, Value.bool (kind == 2), Value.int IntKind.i64 1024, Value.int IntKind.i64 len, Value.bool R, Value.int IntKind.i64 254, Value.int IntKind.i64 recs, Value.bool R, Value.int IntKind.i64 254] 76)).drew.heap[w1.heap.size]? = some (Obj.cells #[Value.int IntKind.i64 size, Value.bool (kind == 2), Value.int IntKind.i64 1024, Value.int IntKind.i64 len, Value.bool R, Value.int IntKind.i64 254, Value.int IntKind.i64 recs, Value.bool R, Value.int IntKind.i64 254] 76) := heap_alloc_new w1 _
  have hzm : (w1.alloc (Obj.cells #[Value.int IntKind.i64 size, Value.bool (kind == 2), Value.int IntKind.i64 1024, Value.int IntKind.i64 len, Value.bool R, Value.int IntKind.i64 254, Value.int IntKind.i64 recs, Value.bool R, Value.int IntKind.i64 254] 76)).drew.heap.size = w1.heap.size + 1 := alloc_size w1 _
  generalize (w1.alloc (Obj.cells #[Value.int IntKind.i64 size, Value.bool (kind == 2), Value.int IntKind.i64 1024, Value.int IntKind.i64 len, Value.bool R, Value.int IntKind.i64 254, Value.int IntKind.i64 recs, Value.bool R, Value.int IntKind.i64 254] 76)).drew = M at *
  have HNM := Lib.hid ((hbm.block w.heap.size (by have := HZ.out; omega)).trans HN.out)
  have HBM := Lib.hid (HB.out.trans (hbm.mono HB.out.size))
  generalize (kind == 2) = K2 at *
  have HROW := Lib.hid hrow
  have HZM := Lib.hid hzm
  clear hbm hrow hzm hbd HS
  have HF := Lib.hid (show ∀ n h, numE n h 254 = 0 → 0 ≤ n ∧ n ≤ 254 from fun n h e => by
    cases h with
    | false => rw [numE_no] at e; split at e <;> omega
    | true => rw [numE_yes] at e; split at e <;> omega)
  go_wp2_with fail
  go_loopw [25] (fun i wr => ∃ k : Nat, k ≤ 3 ∧ i = .int .i64 k ∧ Hid ((1 ≤ k → E0 = 0) ∧ (2 ≤ k → E1 = 0) ∧ (3 ≤ k → E2 = 0)) ∧ Hid (Below M.heap.size M wr)) (fun i _ => 3 - (intOf i).toNat)
  case atStart => exact ⟨0, by omega, rfl, ⟨fun h => absurd h (by omega), fun h => absurd h (by omega), fun h => absurd h (by omega)⟩, Below.refl _ _⟩
  case round =>
    obtain ⟨k, hk, rfl, HI, HB2⟩ := hrel
    have hrw := (HB2.out.block w1.heap.size (by have := HZM.out; omega)).trans HROW.out
    have c0 := cell_of_row _ _ 0 _ _ _ hrw
    have c1 := cell_of_row _ _ 1 _ _ _ hrw
    have c2 := cell_of_row _ _ 2 _ _ _ hrw
    have c3 := cell_of_row _ _ 3 _ _ _ hrw
    have c4 := cell_of_row _ _ 4 _ _ _ hrw
    have c5 := cell_of_row _ _ 5 _ _ _ hrw
    have c6 := cell_of_row _ _ 6 _ _ _ hrw
    have c7 := cell_of_row _ _ 7 _ _ _ hrw
    have c8 := cell_of_row _ _ 8 _ _ _ hrw
    have hfw := (HB2.out.block w.heap.size (by have := HZM.out; have := HZ.out; omega)).trans HNM.out
    have f5 := cell_of_row _ _ 5 _ _ _ hfw
    have f6 := cell_of_row _ _ 6 _ _ _ hfw
    have HBR := Lib.hid (HBM.out.trans (HB2.out.mono HBM.out.size))
    clear hrw hfw
    have hk4 : k = 0 ∨ k = 1 ∨ k = 2 ∨ k = 3 := by omega
    rcases hk4 with rfl | rfl | rfl | rfl
    · cases K2 with
      | false =>
        by_cases hx : size = 0
        · have he : E0 = 0 := by rw [H0.out]; rw [numE_no, if_pos hx]
          have HI2 := Lib.hid (show (1 ≤ 1 → E0 = 0) ∧ (2 ≤ 1 → E1 = 0) ∧ (3 ≤ 1 → E2 = 0) from ⟨fun _ => he, fun h => absurd h (by omega), fun h => absurd h (by omega)⟩)
          clear he
          go_wp2_with fail
          go_roundw
          case rel => exact ⟨1, by omega, by go_num, HI2, HB2.out.alloc HB2.out.size _⟩
          case measure => simp [intOf]
        · have n1 : (size == 0) = false := by simpa using hx
          have n2 : (size != 0) = true := by simpa using hx
          have he : E0 = 4 := by rw [H0.out]; first | (rw [numE_no, if_neg (by omega)]) | (rw [numE_yes, if_pos (by omega)])
          have hg : RES = (4 : Int) := by rw [HRES.out, he, if_pos (by omega)]
          have HG := Lib.hid hg
          clear hg he
          go_wp2_with fail
          go_ret
          exact ⟨ret_int HG.out.symm, HBR.out.alloc (HBR.out.size) _⟩
      | true =>
        by_cases hx : size < 1
        · have he : E0 = 2 := by rw [H0.out]; first | (rw [numE_no, if_neg (by omega)]) | (rw [numE_yes, if_pos (by omega)])
          have hg : RES = (2 : Int) := by rw [HRES.out, he, if_pos (by omega)]
          have HG := Lib.hid hg
          clear hg he
          go_wp2_with fail
          go_ret
          exact ⟨ret_int HG.out.symm, HBR.out.alloc (HBR.out.size) _⟩
        · have n1 : decide (size < 1) = false := decide_eq_false hx
          by_cases hy : 1024 < size
          · have hx := hy
            have he : E0 = 2 := by rw [H0.out]; first | (rw [numE_no, if_neg (by omega)]) | (rw [numE_yes, if_pos (by omega)])
            have hg : RES = (2 : Int) := by rw [HRES.out, he, if_pos (by omega)]
            have HG := Lib.hid hg
            clear hg he
            go_wp2_with fail
            go_ret
            exact ⟨ret_int HG.out.symm, HBR.out.alloc (HBR.out.size) _⟩
          · have n2 : decide (1024 < size) = false := decide_eq_false hy
            have he : E0 = 0 := by rw [H0.out]; rw [numE_yes, if_neg (by omega)]
            have HI2 := Lib.hid (show (1 ≤ 1 → E0 = 0) ∧ (2 ≤ 1 → E1 = 0) ∧ (3 ≤ 1 → E2 = 0) from ⟨fun _ => he, fun h => absurd h (by omega), fun h => absurd h (by omega)⟩)
            clear he
            go_wp2_with fail
            go_roundw
            case rel => exact ⟨1, by omega, by go_num, HI2, HB2.out.alloc HB2.out.size _⟩
            case measure => simp [intOf]
    · cases R with
      | false =>
        by_cases hx : len = 0
        · have he : E1 = 0 := by rw [H1.out]; rw [numE_no, if_pos hx]
          have HI2 := Lib.hid (show (1 ≤ 2 → E0 = 0) ∧ (2 ≤ 2 → E1 = 0) ∧ (3 ≤ 2 → E2 = 0) from ⟨fun _ => HI.out.1 (by omega), fun _ => he, fun h => absurd h (by omega)⟩)
          clear he
          go_wp2_with fail
          go_roundw
          case rel => exact ⟨2, by omega, by go_num, HI2, HB2.out.alloc HB2.out.size _⟩
          case measure => simp [intOf]
        · have n1 : (len == 0) = false := by simpa using hx
          have n2 : (len != 0) = true := by simpa using hx
          have he : E1 = 4 := by rw [H1.out]; first | (rw [numE_no, if_neg (by omega)]) | (rw [numE_yes, if_pos (by omega)])
          have hg : RES = (4 : Int) := by rw [HRES.out]; rw [if_neg (by rw [HI.out.1 (by omega)]; simp)]; rw [he, if_pos (by omega)]
          have HG := Lib.hid hg
          clear hg he
          go_wp2_with fail
          go_ret
          exact ⟨ret_int HG.out.symm, HBR.out.alloc (HBR.out.size) _⟩
      | true =>
        by_cases hx : len < 1
        · have he : E1 = 2 := by rw [H1.out]; first | (rw [numE_no, if_neg (by omega)]) | (rw [numE_yes, if_pos (by omega)])
          have hg : RES = (2 : Int) := by rw [HRES.out]; rw [if_neg (by rw [HI.out.1 (by omega)]; simp)]; rw [he, if_pos (by omega)]
          have HG := Lib.hid hg
          clear hg he
          go_wp2_with fail
          go_ret
          exact ⟨ret_int HG.out.symm, HBR.out.alloc (HBR.out.size) _⟩
        · have n1 : decide (len < 1) = false := decide_eq_false hx
          by_cases hy : 254 < len
          · have hx := hy
            have he : E1 = 2 := by rw [H1.out]; first | (rw [numE_no, if_neg (by omega)]) | (rw [numE_yes, if_pos (by omega)])
            have hg : RES = (2 : Int) := by rw [HRES.out]; rw [if_neg (by rw [HI.out.1 (by omega)]; simp)]; rw [he, if_pos (by omega)]
            have HG := Lib.hid hg
            clear hg he
            go_wp2_with fail
            go_ret
            exact ⟨ret_int HG.out.symm, HBR.out.alloc (HBR.out.size) _⟩
          · have n2 : decide (254 < len) = false := decide_eq_false hy
            have he : E1 = 0 := by rw [H1.out]; rw [numE_yes, if_neg (by omega)]
            have HI2 := Lib.hid (show (1 ≤ 2 → E0 = 0) ∧ (2 ≤ 2 → E1 = 0) ∧ (3 ≤ 2 → E2 = 0) from ⟨fun _ => HI.out.1 (by omega), fun _ => he, fun h => absurd h (by omega)⟩)
            clear he
            go_wp2_with fail
            go_roundw
            case rel => exact ⟨2, by omega, by go_num, HI2, HB2.out.alloc HB2.out.size _⟩
            case measure => simp [intOf]
    · cases R with
      | false =>
        by_cases hx : recs = 0
        · have he : E2 = 0 := by rw [H2.out]; rw [numE_no, if_pos hx]
          have HI2 := Lib.hid (show (1 ≤ 3 → E0 = 0) ∧ (2 ≤ 3 → E1 = 0) ∧ (3 ≤ 3 → E2 = 0) from ⟨fun _ => HI.out.1 (by omega), fun _ => HI.out.2.1 (by omega), fun _ => he⟩)
          clear he
          go_wp2_with fail
          go_roundw
          case rel => exact ⟨3, by omega, by go_num, HI2, HB2.out.alloc HB2.out.size _⟩
          case measure => simp [intOf]
        · have n1 : (recs == 0) = false := by simpa using hx
          have n2 : (recs != 0) = true := by simpa using hx
          have he : E2 = 4 := by rw [H2.out]; first | (rw [numE_no, if_neg (by omega)]) | (rw [numE_yes, if_pos (by omega)])
          have hg : RES = (4 : Int) := by rw [HRES.out]; rw [if_neg (by rw [HI.out.1 (by omega)]; simp)]; rw [if_neg (by rw [HI.out.2.1 (by omega)]; simp)]; rw [he, if_pos (by omega)]
          have HG := Lib.hid hg
          clear hg he
          go_wp2_with fail
          go_ret
          exact ⟨ret_int HG.out.symm, HBR.out.alloc (HBR.out.size) _⟩
      | true =>
        by_cases hx : recs < 1
        · have he : E2 = 2 := by rw [H2.out]; first | (rw [numE_no, if_neg (by omega)]) | (rw [numE_yes, if_pos (by omega)])
          have hg : RES = (2 : Int) := by rw [HRES.out]; rw [if_neg (by rw [HI.out.1 (by omega)]; simp)]; rw [if_neg (by rw [HI.out.2.1 (by omega)]; simp)]; rw [he, if_pos (by omega)]
          have HG := Lib.hid hg
          clear hg he
          go_wp2_with fail
          go_ret
          exact ⟨ret_int HG.out.symm, HBR.out.alloc (HBR.out.size) _⟩
        · have n1 : decide (recs < 1) = false := decide_eq_false hx
          by_cases hy : 254 < recs
          · have hx := hy
            have he : E2 = 2 := by rw [H2.out]; first | (rw [numE_no, if_neg (by omega)]) | (rw [numE_yes, if_pos (by omega)])
            have hg : RES = (2 : Int) := by rw [HRES.out]; rw [if_neg (by rw [HI.out.1 (by omega)]; simp)]; rw [if_neg (by rw [HI.out.2.1 (by omega)]; simp)]; rw [he, if_pos (by omega)]
            have HG := Lib.hid hg
            clear hg he
            go_wp2_with fail
            go_ret
            exact ⟨ret_int HG.out.symm, HBR.out.alloc (HBR.out.size) _⟩
          · have n2 : decide (254 < recs) = false := decide_eq_false hy
            have he : E2 = 0 := by rw [H2.out]; rw [numE_yes, if_neg (by omega)]
            have HI2 := Lib.hid (show (1 ≤ 3 → E0 = 0) ∧ (2 ≤ 3 → E1 = 0) ∧ (3 ≤ 3 → E2 = 0) from ⟨fun _ => HI.out.1 (by omega), fun _ => HI.out.2.1 (by omega), fun _ => he⟩)
            clear he
            go_wp2_with fail
            go_roundw
            case rel => exact ⟨3, by omega, by go_num, HI2, HB2.out.alloc HB2.out.size _⟩
            case measure => simp [intOf]
    · have hl := HF.out len R (by rw [← H1.out]; exact HI.out.2.1 (by omega))
      have hr := HF.out recs R (by rw [← H2.out]; exact HI.out.2.2 (by omega))
      have hp1 : 0 ≤ len * recs := Int.mul_nonneg hl.1 hr.1
      have hp2 : len * recs ≤ 254 * 254 := Int.mul_le_mul hl.2 hr.2 hr.1 (by omega)
      have hwr : IntKind.i64.wrap (len * recs) = len * recs := IntWalk.i64_in _ (by omega)
      have hres := HRES.out
      rw [if_neg (by rw [HI.out.1 (by omega)]; simp), if_neg (by rw [HI.out.2.1 (by omega)]; simp), if_neg (by rw [HI.out.2.2 (by omega)]; simp)] at hres
      clear HRES
      clear hl hr hp1 hp2
      by_cases hP : 1024 < len * recs
      · rw [if_pos hP] at hres
        have HG := Lib.hid hres
        clear hres
        go_wp2_with fail
        go_ret
        exact ⟨ret_int HG.out.symm, HBR.out⟩
      · have hP2 : decide (1024 < len * recs) = false := decide_eq_false hP
        rw [if_neg hP] at hres
        have HG := Lib.hid hres
        clear hres
        go_wp2_with fail
        go_ret
        exact ⟨ret_int HG.out.symm, HBR.out⟩

/-- What Check answers. -/
def chkF (f : Fl) : Int :=
  if f.kind < 1 ∨ 5 < f.kind then 1 else if f.id < 1 ∨ 65534 < f.id ∨ f.id = 16383 then 2 else if 16 < f.name.length then 3 else if 0 < f.name.length ∧ ¬ f.kind = 1 then 4
  else if f.short < 0 ∨ 30 < f.short then 2 else if ¬ f.short = 0 ∧ f.kind = 1 then 4 else if ¬ sizE f = 0 then sizE f else if f.state < 1 ∨ 3 < f.state then 2 else chkR f.rules

/-- The header of the chapter's example. -/
def exF : Fl := ⟨12033, 2, 1, 32, 0, 0, 1, [], []⟩
def exA : Value := .agg #[.int .i64 12033, .int .i64 2, .slice none 0 0, .int .i64 1, .int .i64 32, .int .i64 0, .int .i64 0, .int .i64 1, .slice none 0 0]
theorem ex_siz : sizE exF = 0 := by kernel_rfl
theorem RL.nil (w : World) (B : Nat) : RL w B (.slice none 0 0) [] := ⟨none, 0, rfl, Nat.le_refl _, Nat.zero_le _, fun hp => absurd hp (by simp)⟩
set_option maxRecDepth 100000 in
set_option maxHeartbeats 3200000 in
theorem ex_chk (w : World) (hT : Tb w) : Calls Tryd.prog 11 #[.agg #[.int .i64 12033, .int .i64 2, .slice none 0 0, .int .i64 1, .int .i64 32, .int .i64 0, .int .i64 0, .int .i64 1, .slice none 0 0]] w fun e w' => e = .returned (.int .i64 0) ∧ Below w.heap.size w w' := by
  have HPC : Hid (∀ W, Calls Tryd.prog 27 #[.agg #[.int .i64 12033, .int .i64 2, .slice none 0 0, .int .i64 1, .int .i64 32, .int .i64 0, .int .i64 0, .int .i64 1, .slice none 0 0]] W fun e w' => e = .returned (.int .i64 0) ∧ Below W.heap.size W w') := fun W => by
    have h := pcont_any exF none 0 none 0 W
    rw [ex_siz] at h
    exact h
  have HVS : Hid (∀ W, Calls Tryd.prog 28 #[.int .i64 1] W fun e w' => e = .returned (.bool true) ∧ W = w') := fun W => vst_any 1 W
  have HPR : Hid (∀ W, Below w.heap.size w W → Calls Tryd.prog 29 #[.slice none 0 0] W fun e w' => e = .returned (.int .i64 0) ∧ Below W.heap.size W w') := fun W hW => pchr_any [] _ W (RL.nil _ _) (hT.on hW) (fun k h => absurd h (by simp))
  have HB := Lib.hid (alloc_below w (Obj.cells #[.int .i64 12033, .int .i64 2, .slice none 0 0, .int .i64 1, .int .i64 32, .int .i64 0, .int .i64 0, .int .i64 1, .slice none 0 0] 25))
  have HN := Lib.hid (heap_alloc_new w (Obj.cells #[.int .i64 12033, .int .i64 2, .slice none 0 0, .int .i64 1, .int .i64 32, .int .i64 0, .int .i64 0, .int .i64 1, .slice none 0 0] 25))
  have HZ := Lib.hid (alloc_size w (Obj.cells #[.int .i64 12033, .int .i64 2, .slice none 0 0, .int .i64 1, .int .i64 32, .int .i64 0, .int .i64 0, .int .i64 1, .slice none 0 0] 25))
  clear hT
  go_enter Tryd.func11, Tryd.ntmps11
  go_wp2_with fail
  refine (HPC.out _).mono ?_
  rintro e w2 ⟨rfl, hb2⟩
  have k2 := (hb2.block w.heap.size (by rw [HZ.out]; omega)).trans HN.out
  have q7 := cell_of_row _ _ 7 _ _ _ k2
  have q8 := cell_of_row _ _ 8 _ _ _ k2
  have HB2 := Lib.hid (HB.out.trans (hb2.mono HB.out.size))
  clear hb2 k2
  go_wp2_with fail
  refine (HVS.out _).mono ?_
  rintro e w3 ⟨rfl, rfl⟩
  go_wp2_with fail
  refine (HPR.out _ HB2.out).mono ?_
  rintro e w4 ⟨rfl, hb4⟩
  go_wp2_with fail
  go_ret
  exact ⟨rfl, HB2.out.trans (hb4.mono HB2.out.size)⟩
end Go.Proofs.YtkjcafhaenkpbaaDoor
