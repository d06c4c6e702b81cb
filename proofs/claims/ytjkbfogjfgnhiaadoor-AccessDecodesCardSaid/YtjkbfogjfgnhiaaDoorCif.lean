
/-
  readRule of the program.
-/
import Derived.Test.YtjkbfogjfgnhiaaDoorCie
namespace Go.Proofs.YtjkbfogjfgnhiaaDoor
set_option linter.unusedVariables false
set_option linter.unusedSimpArgs false
open Go.RowKit

/-- The rule of a data object with tag t and value b. -/
def rulF (t : Int) (b : List UInt8) : Option (Nat × Cn) :=
  if t ≠ 128 ∨ b.length = 0 then none else match rdF b.length (b.drop 1) with
    | some (c, []) => some (byN b 0, c)
    | _ => none
/-- What readRule gives. -/
def RuP (w : World) (x : Option (Nat × Cn)) (e : Ending) (w' : World) : Prop := Below w.heap.size w w' ∧
  ((x = none ∧ e = .returned (.tuple #[.agg #[.int .i64 0, .int .i64 0, .int .i64 0, .slice none 0 0], .bool false])) ∨
   ∃ p k Ak ck, x = some (p, k) ∧ e = .returned (.tuple #[.agg #[.int .i64 (p : Nat), .int .i64 k.op, .int .i64 k.n, .slice Ak k.kids.length ck], .bool true]) ∧
     KC w' (From w' w.heap.size) (.slice Ak k.kids.length ck) k.kids)

theorem row4_set (w : World) (g : Nat) (ty : TypeId) (a b c d x y z u : Value) (hg : w.heap[g]? = some (.cells #[a, b, c, d] ty (0, 0))) :
    ((((w.setCell ⟨g, 0, none⟩ x).setCell ⟨g, 1, none⟩ y).setCell ⟨g, 2, none⟩ z).setCell ⟨g, 3, none⟩ u).heap[g]? = some (.cells #[x, y, z, u] ty (0, 0)) := by
  have h1 := heap_setCell_same w g 0 _ ty x hg
  have h2 := heap_setCell_same _ g 1 _ ty y h1
  have h3 := heap_setCell_same _ g 2 _ ty z h2
  have h4 := heap_setCell_same _ g 3 _ ty u h3
  rw [h4]
  simp

set_option maxRecDepth 100000 in
set_option maxHeartbeats 6400000 in
theorem rrule_any (t : Int) (b : List UInt8) (v u : Value) (w : World) (B0 : Nat) (hle : B0 ≤ w.heap.size) (hT : Tb w) (hv : SL w B0 v b) (hu : ∃ A k c, u = .slice A k c) :
    Calls Tryd.prog 58 #[.agg #[.int .i64 t, v, u]] w (RuP w (rulF t b)) := by
  have HV := Lib.hid hv
  obtain ⟨A, c, rfl, h1, h2, h3⟩ := id hv
  obtain ⟨Au, ku, cu, rfl⟩ := hu
  obtain ⟨R, hR⟩ : ∃ R, R = rulF t b := ⟨_, rfl⟩
  rw [← hR]
  have HR := Lib.hid hR
  clear hR
  have hb2 := alloc2_below w (Obj.cells #[.int .i64 t, .slice A b.length c, .slice Au ku cu] 70) (Obj.cells #[.int .i64 0, .int .i64 0, .int .i64 0, .slice none 0 0] 53)
  have hr := heap_alloc2_old w (Obj.cells #[.int .i64 t, .slice A b.length c, .slice Au ku cu] 70) (Obj.cells #[.int .i64 0, .int .i64 0, .int .i64 0, .slice none 0 0] 53)
  have hr2 := heap2_new w (Obj.cells #[.int .i64 t, .slice A b.length c, .slice Au ku cu] 70) (Obj.cells #[.int .i64 0, .int .i64 0, .int .i64 0, .slice none 0 0] 53)
  have HB2 := Lib.hid hb2
  have HR1 := Lib.hid hr
  have HR2 := Lib.hid hr2
  clear hb2 hr hr2 hv
  by_cases ht : t = 128
  case neg =>
    have hRn : R = none := by rw [HR.out]; unfold rulF; rw [if_pos (.inl ht)]
    have HN : Hid (∀ w' e, Below w.heap.size w w' → e = .returned (.tuple #[.agg #[.int .i64 0, .int .i64 0, .int .i64 0, .slice none 0 0], .bool false]) → RuP w R e w') := fun w' e h1 h2 => ⟨h1, .inl ⟨hRn, h2⟩⟩
    have ht' : (t != 128) = true := by rw [bne_iff_ne]; exact ht
    clear h1 h2 h3 hRn
    go_enter Tryd.func58, Tryd.ntmps58
    go_wp2_with fail
    exact bodyPost_ret (results_cellA rfl _ _ (w.heap.size + 1) 53 #[.int .i64 0, .int .i64 0, .int .i64 0, .slice none 0 0] (0, 0) _ rfl HR2.out Tryd.underlying53 rfl (by kernel_rfl)) rfl (HN.out _ _ HB2.out rfl)
  subst ht
  by_cases h0 : b.length = 0
  · have hRn : R = none := by rw [HR.out]; unfold rulF; rw [if_pos (.inr h0)]
    have HN : Hid (∀ w' e, Below w.heap.size w w' → e = .returned (.tuple #[.agg #[.int .i64 0, .int .i64 0, .int .i64 0, .slice none 0 0], .bool false]) → RuP w R e w') := fun w' e h1 h2 => ⟨h1, .inl ⟨hRn, h2⟩⟩
    clear h1 h2 h3 hRn
    rw [h0] at HR2 HB2 ⊢
    go_enter Tryd.func58, Tryd.ntmps58
    go_wp2_with fail
    exact bodyPost_ret (results_cellA rfl _ _ (w.heap.size + 1) 53 #[.int .i64 0, .int .i64 0, .int .i64 0, .slice none 0 0] (0, 0) _ rfl HR2.out Tryd.underlying53 rfl (by kernel_rfl)) rfl (HN.out _ _ HB2.out rfl)
  obtain ⟨B, o, rfl, hB, hc⟩ := h3 (by omega)
  have g0 : w.cell? ⟨B, o, none⟩ = some (.int .u8 ((byN b 0 : Nat) : Int)) := hc 0 (by omega)
  obtain ⟨n, hn⟩ : ∃ n, b.length = n + 1 := ⟨b.length - 1, by omega⟩
  obtain ⟨m, rfl⟩ : ∃ m, c = m + 1 := ⟨c - 1, by omega⟩
  have HRd : Hid (R = match rdF b.length (b.drop 1) with | some (c, []) => some (byN b 0, c) | _ => none) := by
    show _ = _
    rw [HR.out]
    unfold rulF
    rw [if_neg (fun h => h.elim (fun h => h rfl) h0)]
  obtain ⟨D, hD⟩ : ∃ D, D = rdF b.length (b.drop 1) := ⟨_, rfl⟩
  rw [← hD] at HRd
  have HDV : Hid (∀ v' W, B0 ≤ W.heap.size → Tb W → SL W B0 v' (b.drop 1) → Calls Tryd.prog 84 #[v'] W fun e w' => RdP B0 W D e w') := fun v' W h1 h2 h3 => by
    rw [hD]
    exact rd_any b.length (b.drop 1) v' W B0 (by rw [List.length_drop]; omega) h1 h2 h3
  have hbn : byN b 0 < 256 := byN_lt b 0
  generalize byN b 0 = p at *
  have hwp : IntKind.wrap .i64 (p : Int) = (p : Int) := by simp [IntKind.wrap, IntKind.signed, IntKind.bits]; omega
  have hn1 : (1 : Int) ≤ (n : Int) + 1 := by omega
  have hBw : B < w.heap.size := by omega
  have HT := Lib.hid hT
  have hnm : n ≤ m := by omega
  have hb1 : (b.drop 1).length = n := by rw [List.length_drop]; omega
  have HD1 := Lib.hid hb1
  rw [hn] at HB2 HR1 HR2 ⊢
  have HN1 := Lib.hid hn
  clear h0 h1 h3 hc hD HR hT hb1 hn
  rcases m with _ | m
  · obtain rfl : n = 0 := by omega
    simp only [Nat.zero_add] at HB2 HR1 HR2 ⊢
    have HSV : Hid (SL w B0 (.slice (some ⟨B, o, none⟩) 0 0) (b.drop 1)) := by
      show SL _ _ _ _
      rw [List.eq_nil_of_length_eq_zero HD1.out]
      exact SL.nil _ _ _ _ (Nat.zero_le _)
    go_enter Tryd.func58, Tryd.ntmps58
    go_wp2_with fail
    have g1 := (HB2.out.cell hBw (p := ⟨B, o, none⟩)).trans g0
    refine (HDV.out _ _ (by have := HB2.out.size; omega) (HT.out.on HB2.out) (HSV.out.below (HB2.out.mono hle))).mono ?_
    generalize (w.alloc (Obj.cells #[.int .i64 128, .slice (some ⟨B, o, none⟩) 1 1, .slice Au ku cu] 70)).alloc (Obj.cells #[.int .i64 0, .int .i64 0, .int .i64 0, .slice none 0 0] 53) = w3 at *
    rintro e w4 ⟨hb4, h⟩
    have hs4 := hb4.size
    have hs2 := HB2.out.size
    have hl2 : w.heap.size + 1 < w3.heap.size := (Array.getElem?_eq_some_iff.1 HR2.out).1
    have HQ1 := Lib.hid ((hb4.block w.heap.size (by omega)).trans HR1.out)
    have HQ2 := Lib.hid ((hb4.block (w.heap.size + 1) hl2).trans HR2.out)
    have HB4 := Lib.hid (HB2.out.trans (hb4.mono HB2.out.size))
    have g4 := (hb4.cell (p := ⟨B, o, none⟩) (by show B < w3.heap.size; omega)).trans g1
    have HF : Hid (∀ ob : Obj, (w4.alloc ob).heap[w.heap.size]? = some (.cells #[.int .i64 128, .slice (some ⟨B, o, none⟩) 1 1, .slice Au ku cu] 70 (0, 0)) ∧ (w4.alloc ob).heap[w.heap.size + 1]? = some (.cells #[.int .i64 0, .int .i64 0, .int .i64 0, .slice none 0 0] 53 (0, 0)) ∧ (w4.alloc ob).cell? ⟨B, o, none⟩ = some (.int .u8 (p : Int)) ∧ (w4.alloc ob).heap[w4.heap.size]? = some ob ∧ Below w.heap.size w (w4.alloc ob)) := fun ob => by
      have hba := alloc_below w4 ob
      exact ⟨(hba.block _ (by omega)).trans HQ1.out, (hba.block _ (by omega)).trans HQ2.out, (hba.cell (p := ⟨B, o, none⟩) (by show B < _; omega)).trans g4, heap_alloc_new _ _, HB4.out.trans (hba.mono HB4.out.size)⟩
    have HNo : Hid (R = none → ∀ w5, w5.heap[w.heap.size + 1]? = some (.cells #[.int .i64 0, .int .i64 0, .int .i64 0, .slice none 0 0] 53 (0, 0)) → Below w.heap.size w w5 → RuP w R (.returned (.tuple #[.agg #[.int .i64 0, .int .i64 0, .int .i64 0, .slice none 0 0], .bool false])) ((((w5.setCell ⟨w.heap.size + 1, 0, none⟩ (.int .i64 0)).setCell ⟨w.heap.size + 1, 1, none⟩ (.int .i64 0)).setCell ⟨w.heap.size + 1, 2, none⟩ (.int .i64 0)).setCell ⟨w.heap.size + 1, 3, none⟩ (.slice none 0 0))) := fun hR w5 _ hb => ⟨(set3_below hb (w.heap.size + 1) (Nat.le_succ _) _ _ _).setCell (p := ⟨w.heap.size + 1, 3, none⟩) (Nat.le_succ _) _, .inl ⟨hR, rfl⟩⟩
    clear g1
    have hne4 : w.heap.size + 1 ≠ w4.heap.size := by omega
    have hne5 : w4.heap.size ≠ w.heap.size + 1 := by omega
    rcases h with ⟨hno, rfl⟩ | ⟨kd, r, Ak, ck, Ar, cr, hso, rfl, hkc, hsr⟩
    · have hRn : Hid (R = none) := by show _ = _; rw [HRd.out, hno]
      clear hno
      obtain ⟨q1, q2, g5, q4, q5⟩ := HF.out (.cells #[.int .i64 0, .int .i64 0, .slice none 0 0] 24)
      have z0 := cell_of_row _ _ 0 _ _ _ q2
      have z1 := cell_of_row _ _ 1 _ _ _ q2
      have z2 := cell_of_row _ _ 2 _ _ _ q2
      have z3 := cell_of_row _ _ 3 _ _ _ q2
      have y0 := frozen_of_row _ _ 0 _ _ q2
      have y1 := frozen_of_row _ _ 1 _ _ q2
      have y2 := frozen_of_row _ _ 2 _ _ q2
      have y3 := frozen_of_row _ _ 3 _ _ q2
      have Q2 := Lib.hid q2
      have Q5 := Lib.hid q5
      clear q1 q2 q4 q5 g4 g5
      go_wp2_with fail
      refine bodyPost_ret (results_cellA rfl _ _ (w.heap.size + 1) 53 #[.int .i64 0, .int .i64 0, .int .i64 0, .slice none 0 0] (0, 0) _ rfl (row4_set _ _ _ _ _ _ _ _ _ _ _ Q2.out) Tryd.underlying53 rfl (by kernel_rfl)) rfl ?_
      exact HNo.out hRn.out _ Q2.out Q5.out
    · have HKC := Lib.hid hkc
      have HSO := Lib.hid hso
      clear hkc hso
      obtain ⟨q1, q2, g5, q4, q5⟩ := HF.out (.cells #[.int .i64 kd.op, .int .i64 kd.n, .slice Ak kd.kids.length ck] 24)
      have z0 := cell_of_row _ _ 0 _ _ _ q2
      have z1 := cell_of_row _ _ 1 _ _ _ q2
      have z2 := cell_of_row _ _ 2 _ _ _ q2
      have z3 := cell_of_row _ _ 3 _ _ _ q2
      have y0 := frozen_of_row _ _ 0 _ _ q2
      have y1 := frozen_of_row _ _ 1 _ _ q2
      have y2 := frozen_of_row _ _ 2 _ _ q2
      have y3 := frozen_of_row _ _ 3 _ _ q2
      have Q2 := Lib.hid q2
      have Q5 := Lib.hid q5
      have Q1 := Lib.hid q1
      have Q4 := Lib.hid q4
      by_cases hr0 : r.length = 0
      · rw [hr0]
        have a1 := cell_of_row _ _ 1 _ _ _ q1
        have b0 := cell_of_row _ _ 0 _ _ _ q4
        have b1 := cell_of_row _ _ 1 _ _ _ q4
        have b2 := cell_of_row _ _ 2 _ _ _ q4
        clear q1 q2 q4 q5 g4
        have hRs : Hid (R = some (p, kd)) := by
          show _ = _
          rw [HRd.out, HSO.out]
          cases r with
          | nil => rfl
          | cons x xs => simp at hr0
        have HKW : Hid (KC (w4.alloc (.cells #[.int .i64 kd.op, .int .i64 kd.n, .slice Ak kd.kids.length ck] 24)) (From (w4.alloc (.cells #[.int .i64 kd.op, .int .i64 kd.n, .slice Ak kd.kids.length ck] 24)) (w.heap.size + 2)) (.slice Ak kd.kids.length ck) kd.kids) := (HKC.out.fromMore (by omega)).on (alloc_below _ _)
        go_wp2_with fail
        have hB1 : B ≠ w.heap.size + 1 := by omega
        generalize w4.alloc (.cells #[.int .i64 kd.op, .int .i64 kd.n, .slice Ak kd.kids.length ck] 24) = W5 at *
        have gx : ((((W5.setCell ⟨w.heap.size + 1, 0, none⟩ (.int .i64 (p : Int))).setCell ⟨w.heap.size + 1, 1, none⟩ (.int .i64 kd.op)).setCell ⟨w.heap.size + 1, 2, none⟩ (.int .i64 kd.n)).setCell ⟨w.heap.size + 1, 3, none⟩ (.slice Ak kd.kids.length ck)).heap[w.heap.size + 1]? = some (.cells #[.int .i64 (p : Int), .int .i64 kd.op, .int .i64 kd.n, .slice Ak kd.kids.length ck] 53 (0, 0)) := row4_set _ _ _ _ _ _ _ _ _ _ _ Q2.out
        have GX := Lib.hid gx
        have hfar : ∀ q : Addr, q.block ≠ w.heap.size + 1 → ((((W5.setCell ⟨w.heap.size + 1, 0, none⟩ (.int .i64 (p : Int))).setCell ⟨w.heap.size + 1, 1, none⟩ (.int .i64 kd.op)).setCell ⟨w.heap.size + 1, 2, none⟩ (.int .i64 kd.n)).setCell ⟨w.heap.size + 1, 3, none⟩ (.slice Ak kd.kids.length ck)).cell? q = W5.cell? q := fun q hq => (far_set _ _ hq).trans ((far_set _ _ hq).trans ((far_set _ _ hq).trans (far_set _ _ hq)))
        have hS := And.intro ((hfar ⟨w.heap.size, 1, none⟩ (by show w.heap.size ≠ _; omega)).trans a1) (And.intro ((hfar ⟨B, o, none⟩ hB1).trans g5) (And.intro ((hfar ⟨w4.heap.size, 0, none⟩ hne5).trans b0) (And.intro ((hfar ⟨w4.heap.size, 1, none⟩ hne5).trans b1) ((hfar ⟨w4.heap.size, 2, none⟩ hne5).trans b2))))
        have HFAR := Lib.hid hfar
        have HSX := Lib.hid hS
        have HSD : Hid (((((W5.setCell ⟨w.heap.size + 1, 0, none⟩ (.int .i64 (p : Int))).setCell ⟨w.heap.size + 1, 1, none⟩ (.int .i64 kd.op)).setCell ⟨w.heap.size + 1, 2, none⟩ (.int .i64 kd.n)).setCell ⟨w.heap.size + 1, 3, none⟩ (.slice Ak kd.kids.length ck)).drew.cell? ⟨w.heap.size, 1, none⟩ = some (.slice (some ⟨B, o, none⟩) 1 1) ∧ ((((W5.setCell ⟨w.heap.size + 1, 0, none⟩ (.int .i64 (p : Int))).setCell ⟨w.heap.size + 1, 1, none⟩ (.int .i64 kd.op)).setCell ⟨w.heap.size + 1, 2, none⟩ (.int .i64 kd.n)).setCell ⟨w.heap.size + 1, 3, none⟩ (.slice Ak kd.kids.length ck)).drew.cell? ⟨B, o, none⟩ = some (.int .u8 (p : Int)) ∧ ((((W5.setCell ⟨w.heap.size + 1, 0, none⟩ (.int .i64 (p : Int))).setCell ⟨w.heap.size + 1, 1, none⟩ (.int .i64 kd.op)).setCell ⟨w.heap.size + 1, 2, none⟩ (.int .i64 kd.n)).setCell ⟨w.heap.size + 1, 3, none⟩ (.slice Ak kd.kids.length ck)).drew.cell? ⟨w4.heap.size, 0, none⟩ = some (.int .i64 kd.op) ∧ ((((W5.setCell ⟨w.heap.size + 1, 0, none⟩ (.int .i64 (p : Int))).setCell ⟨w.heap.size + 1, 1, none⟩ (.int .i64 kd.op)).setCell ⟨w.heap.size + 1, 2, none⟩ (.int .i64 kd.n)).setCell ⟨w.heap.size + 1, 3, none⟩ (.slice Ak kd.kids.length ck)).drew.cell? ⟨w4.heap.size, 1, none⟩ = some (.int .i64 kd.n) ∧ ((((W5.setCell ⟨w.heap.size + 1, 0, none⟩ (.int .i64 (p : Int))).setCell ⟨w.heap.size + 1, 1, none⟩ (.int .i64 kd.op)).setCell ⟨w.heap.size + 1, 2, none⟩ (.int .i64 kd.n)).setCell ⟨w.heap.size + 1, 3, none⟩ (.slice Ak kd.kids.length ck)).drew.cell? ⟨w4.heap.size, 2, none⟩ = some (.slice Ak kd.kids.length ck)) := hS
        clear gx hfar hS
        go_region_held3 (fun w' => w'.cell? ⟨w.heap.size, 1, none⟩ = some (.slice (some ⟨B, o, none⟩) 1 1) ∧ w'.cell? ⟨B, o, none⟩ = some (.int .u8 (p : Int)) ∧ w'.cell? ⟨w4.heap.size, 0, none⟩ = some (.int .i64 kd.op) ∧ w'.cell? ⟨w4.heap.size, 1, none⟩ = some (.int .i64 kd.n) ∧ w'.cell? ⟨w4.heap.size, 2, none⟩ = some (.slice Ak kd.kids.length ck))
          (first
            | with_reducible exact HSX.out
            | with_reducible exact HSD.out
            | (go_keep; done))
          (fail)
        go_wp2_with fail
        have hbf := ((set3_below (Below.refl (w.heap.size + 1) W5) (w.heap.size + 1) (Nat.le_refl _) (.int .i64 (p : Int)) (.int .i64 kd.op) (.int .i64 kd.n)).setCell (p := ⟨w.heap.size + 1, 3, none⟩) (Nat.le_refl _) (.slice Ak kd.kids.length ck)).drew
        refine bodyPost_ret (results_cellA rfl _ _ (w.heap.size + 1) 53 #[.int .i64 (p : Int), .int .i64 kd.op, .int .i64 kd.n, .slice Ak kd.kids.length ck] (0, 0) _ rfl GX.out Tryd.underlying53 rfl (by kernel_rfl)) rfl ?_
        exact ⟨Q5.out.trans (hbf.mono (Nat.le_succ _)), .inr ⟨p, kd, Ak, ck, hRs.out, rfl, HKW.out.keep fun b hb => ⟨⟨by have := hb.1; omega, Nat.lt_of_lt_of_le hb.2 hbf.size⟩, fun o => HFAR.out ⟨b, o, none⟩ (by show b ≠ _; have := hb.1; omega)⟩⟩⟩
      · have hr1 : (0 : Int) < (r.length : Int) := by omega
        have hRn : Hid (R = none) := by
          show _ = _
          rw [HRd.out, HSO.out]
          cases r with
          | nil => exact absurd rfl hr0
          | cons x xs => rfl
        clear q1 q2 q4 q5 g4 g5
        go_wp2_with fail
        refine bodyPost_ret (results_cellA rfl _ _ (w.heap.size + 1) 53 #[.int .i64 0, .int .i64 0, .int .i64 0, .slice none 0 0] (0, 0) _ rfl (row4_set _ _ _ _ _ _ _ _ _ _ _ Q2.out) Tryd.underlying53 rfl (by kernel_rfl)) rfl ?_
        exact HNo.out hRn.out _ Q2.out Q5.out
  · have HSV : Hid (SL w B0 (.slice (some ⟨B, o + 1, none⟩) n (m + 1)) (b.drop 1)) := sl_tail HV.out HN1.out
    go_enter Tryd.func58, Tryd.ntmps58
    go_wp2_with fail
    have g1 := (HB2.out.cell hBw (p := ⟨B, o, none⟩)).trans g0
    refine (HDV.out _ _ (by have := HB2.out.size; omega) (HT.out.on HB2.out) (HSV.out.below (HB2.out.mono hle))).mono ?_
    generalize (w.alloc (Obj.cells #[.int .i64 128, .slice (some ⟨B, o, none⟩) (n + 1) (m + 1 + 1), .slice Au ku cu] 70)).alloc (Obj.cells #[.int .i64 0, .int .i64 0, .int .i64 0, .slice none 0 0] 53) = w3 at *
    rintro e w4 ⟨hb4, h⟩
    have hs4 := hb4.size
    have hs2 := HB2.out.size
    have hl2 : w.heap.size + 1 < w3.heap.size := (Array.getElem?_eq_some_iff.1 HR2.out).1
    have HQ1 := Lib.hid ((hb4.block w.heap.size (by omega)).trans HR1.out)
    have HQ2 := Lib.hid ((hb4.block (w.heap.size + 1) hl2).trans HR2.out)
    have HB4 := Lib.hid (HB2.out.trans (hb4.mono HB2.out.size))
    have g4 := (hb4.cell (p := ⟨B, o, none⟩) (by show B < w3.heap.size; omega)).trans g1
    have HF : Hid (∀ ob : Obj, (w4.alloc ob).heap[w.heap.size]? = some (.cells #[.int .i64 128, .slice (some ⟨B, o, none⟩) (n + 1) (m + 1 + 1), .slice Au ku cu] 70 (0, 0)) ∧ (w4.alloc ob).heap[w.heap.size + 1]? = some (.cells #[.int .i64 0, .int .i64 0, .int .i64 0, .slice none 0 0] 53 (0, 0)) ∧ (w4.alloc ob).cell? ⟨B, o, none⟩ = some (.int .u8 (p : Int)) ∧ (w4.alloc ob).heap[w4.heap.size]? = some ob ∧ Below w.heap.size w (w4.alloc ob)) := fun ob => by
      have hba := alloc_below w4 ob
      exact ⟨(hba.block _ (by omega)).trans HQ1.out, (hba.block _ (by omega)).trans HQ2.out, (hba.cell (p := ⟨B, o, none⟩) (by show B < _; omega)).trans g4, heap_alloc_new _ _, HB4.out.trans (hba.mono HB4.out.size)⟩
    have HNo : Hid (R = none → ∀ w5, w5.heap[w.heap.size + 1]? = some (.cells #[.int .i64 0, .int .i64 0, .int .i64 0, .slice none 0 0] 53 (0, 0)) → Below w.heap.size w w5 → RuP w R (.returned (.tuple #[.agg #[.int .i64 0, .int .i64 0, .int .i64 0, .slice none 0 0], .bool false])) ((((w5.setCell ⟨w.heap.size + 1, 0, none⟩ (.int .i64 0)).setCell ⟨w.heap.size + 1, 1, none⟩ (.int .i64 0)).setCell ⟨w.heap.size + 1, 2, none⟩ (.int .i64 0)).setCell ⟨w.heap.size + 1, 3, none⟩ (.slice none 0 0))) := fun hR w5 _ hb => ⟨(set3_below hb (w.heap.size + 1) (Nat.le_succ _) _ _ _).setCell (p := ⟨w.heap.size + 1, 3, none⟩) (Nat.le_succ _) _, .inl ⟨hR, rfl⟩⟩
    clear g1
    have hne4 : w.heap.size + 1 ≠ w4.heap.size := by omega
    have hne5 : w4.heap.size ≠ w.heap.size + 1 := by omega
    rcases h with ⟨hno, rfl⟩ | ⟨kd, r, Ak, ck, Ar, cr, hso, rfl, hkc, hsr⟩
    · have hRn : Hid (R = none) := by show _ = _; rw [HRd.out, hno]
      clear hno
      obtain ⟨q1, q2, g5, q4, q5⟩ := HF.out (.cells #[.int .i64 0, .int .i64 0, .slice none 0 0] 24)
      have z0 := cell_of_row _ _ 0 _ _ _ q2
      have z1 := cell_of_row _ _ 1 _ _ _ q2
      have z2 := cell_of_row _ _ 2 _ _ _ q2
      have z3 := cell_of_row _ _ 3 _ _ _ q2
      have y0 := frozen_of_row _ _ 0 _ _ q2
      have y1 := frozen_of_row _ _ 1 _ _ q2
      have y2 := frozen_of_row _ _ 2 _ _ q2
      have y3 := frozen_of_row _ _ 3 _ _ q2
      have Q2 := Lib.hid q2
      have Q5 := Lib.hid q5
      clear q1 q2 q4 q5 g4 g5
      go_wp2_with fail
      refine bodyPost_ret (results_cellA rfl _ _ (w.heap.size + 1) 53 #[.int .i64 0, .int .i64 0, .int .i64 0, .slice none 0 0] (0, 0) _ rfl (row4_set _ _ _ _ _ _ _ _ _ _ _ Q2.out) Tryd.underlying53 rfl (by kernel_rfl)) rfl ?_
      exact HNo.out hRn.out _ Q2.out Q5.out
    · have HKC := Lib.hid hkc
      have HSO := Lib.hid hso
      clear hkc hso
      obtain ⟨q1, q2, g5, q4, q5⟩ := HF.out (.cells #[.int .i64 kd.op, .int .i64 kd.n, .slice Ak kd.kids.length ck] 24)
      have z0 := cell_of_row _ _ 0 _ _ _ q2
      have z1 := cell_of_row _ _ 1 _ _ _ q2
      have z2 := cell_of_row _ _ 2 _ _ _ q2
      have z3 := cell_of_row _ _ 3 _ _ _ q2
      have y0 := frozen_of_row _ _ 0 _ _ q2
      have y1 := frozen_of_row _ _ 1 _ _ q2
      have y2 := frozen_of_row _ _ 2 _ _ q2
      have y3 := frozen_of_row _ _ 3 _ _ q2
      have Q2 := Lib.hid q2
      have Q5 := Lib.hid q5
      have Q1 := Lib.hid q1
      have Q4 := Lib.hid q4
      by_cases hr0 : r.length = 0
      · rw [hr0]
        have a1 := cell_of_row _ _ 1 _ _ _ q1
        have b0 := cell_of_row _ _ 0 _ _ _ q4
        have b1 := cell_of_row _ _ 1 _ _ _ q4
        have b2 := cell_of_row _ _ 2 _ _ _ q4
        clear q1 q2 q4 q5 g4
        have hRs : Hid (R = some (p, kd)) := by
          show _ = _
          rw [HRd.out, HSO.out]
          cases r with
          | nil => rfl
          | cons x xs => simp at hr0
        have HKW : Hid (KC (w4.alloc (.cells #[.int .i64 kd.op, .int .i64 kd.n, .slice Ak kd.kids.length ck] 24)) (From (w4.alloc (.cells #[.int .i64 kd.op, .int .i64 kd.n, .slice Ak kd.kids.length ck] 24)) (w.heap.size + 2)) (.slice Ak kd.kids.length ck) kd.kids) := (HKC.out.fromMore (by omega)).on (alloc_below _ _)
        go_wp2_with fail
        have hn0 : (0 : Int) < (n : Int) + 1 := by omega
        have hB1 : B ≠ w.heap.size + 1 := by omega
        generalize w4.alloc (.cells #[.int .i64 kd.op, .int .i64 kd.n, .slice Ak kd.kids.length ck] 24) = W5 at *
        have gx : ((((W5.setCell ⟨w.heap.size + 1, 0, none⟩ (.int .i64 (p : Int))).setCell ⟨w.heap.size + 1, 1, none⟩ (.int .i64 kd.op)).setCell ⟨w.heap.size + 1, 2, none⟩ (.int .i64 kd.n)).setCell ⟨w.heap.size + 1, 3, none⟩ (.slice Ak kd.kids.length ck)).heap[w.heap.size + 1]? = some (.cells #[.int .i64 (p : Int), .int .i64 kd.op, .int .i64 kd.n, .slice Ak kd.kids.length ck] 53 (0, 0)) := row4_set _ _ _ _ _ _ _ _ _ _ _ Q2.out
        have GX := Lib.hid gx
        have hfar : ∀ q : Addr, q.block ≠ w.heap.size + 1 → ((((W5.setCell ⟨w.heap.size + 1, 0, none⟩ (.int .i64 (p : Int))).setCell ⟨w.heap.size + 1, 1, none⟩ (.int .i64 kd.op)).setCell ⟨w.heap.size + 1, 2, none⟩ (.int .i64 kd.n)).setCell ⟨w.heap.size + 1, 3, none⟩ (.slice Ak kd.kids.length ck)).cell? q = W5.cell? q := fun q hq => (far_set _ _ hq).trans ((far_set _ _ hq).trans ((far_set _ _ hq).trans (far_set _ _ hq)))
        have hS := And.intro ((hfar ⟨w.heap.size, 1, none⟩ (by show w.heap.size ≠ _; omega)).trans a1) (And.intro ((hfar ⟨B, o, none⟩ hB1).trans g5) (And.intro ((hfar ⟨w4.heap.size, 0, none⟩ hne5).trans b0) (And.intro ((hfar ⟨w4.heap.size, 1, none⟩ hne5).trans b1) ((hfar ⟨w4.heap.size, 2, none⟩ hne5).trans b2))))
        have HFAR := Lib.hid hfar
        have HSX := Lib.hid hS
        have HSD : Hid (((((W5.setCell ⟨w.heap.size + 1, 0, none⟩ (.int .i64 (p : Int))).setCell ⟨w.heap.size + 1, 1, none⟩ (.int .i64 kd.op)).setCell ⟨w.heap.size + 1, 2, none⟩ (.int .i64 kd.n)).setCell ⟨w.heap.size + 1, 3, none⟩ (.slice Ak kd.kids.length ck)).drew.cell? ⟨w.heap.size, 1, none⟩ = some (.slice (some ⟨B, o, none⟩) (n + 1) (m + 1 + 1)) ∧ ((((W5.setCell ⟨w.heap.size + 1, 0, none⟩ (.int .i64 (p : Int))).setCell ⟨w.heap.size + 1, 1, none⟩ (.int .i64 kd.op)).setCell ⟨w.heap.size + 1, 2, none⟩ (.int .i64 kd.n)).setCell ⟨w.heap.size + 1, 3, none⟩ (.slice Ak kd.kids.length ck)).drew.cell? ⟨B, o, none⟩ = some (.int .u8 (p : Int)) ∧ ((((W5.setCell ⟨w.heap.size + 1, 0, none⟩ (.int .i64 (p : Int))).setCell ⟨w.heap.size + 1, 1, none⟩ (.int .i64 kd.op)).setCell ⟨w.heap.size + 1, 2, none⟩ (.int .i64 kd.n)).setCell ⟨w.heap.size + 1, 3, none⟩ (.slice Ak kd.kids.length ck)).drew.cell? ⟨w4.heap.size, 0, none⟩ = some (.int .i64 kd.op) ∧ ((((W5.setCell ⟨w.heap.size + 1, 0, none⟩ (.int .i64 (p : Int))).setCell ⟨w.heap.size + 1, 1, none⟩ (.int .i64 kd.op)).setCell ⟨w.heap.size + 1, 2, none⟩ (.int .i64 kd.n)).setCell ⟨w.heap.size + 1, 3, none⟩ (.slice Ak kd.kids.length ck)).drew.cell? ⟨w4.heap.size, 1, none⟩ = some (.int .i64 kd.n) ∧ ((((W5.setCell ⟨w.heap.size + 1, 0, none⟩ (.int .i64 (p : Int))).setCell ⟨w.heap.size + 1, 1, none⟩ (.int .i64 kd.op)).setCell ⟨w.heap.size + 1, 2, none⟩ (.int .i64 kd.n)).setCell ⟨w.heap.size + 1, 3, none⟩ (.slice Ak kd.kids.length ck)).drew.cell? ⟨w4.heap.size, 2, none⟩ = some (.slice Ak kd.kids.length ck)) := hS
        clear gx hfar hS
        go_region_held3 (fun w' => w'.cell? ⟨w.heap.size, 1, none⟩ = some (.slice (some ⟨B, o, none⟩) (n + 1) (m + 1 + 1)) ∧ w'.cell? ⟨B, o, none⟩ = some (.int .u8 (p : Int)) ∧ w'.cell? ⟨w4.heap.size, 0, none⟩ = some (.int .i64 kd.op) ∧ w'.cell? ⟨w4.heap.size, 1, none⟩ = some (.int .i64 kd.n) ∧ w'.cell? ⟨w4.heap.size, 2, none⟩ = some (.slice Ak kd.kids.length ck))
          (first
            | with_reducible exact HSX.out
            | with_reducible exact HSD.out
            | (go_keep; done))
          (fail)
        go_wp2_with fail
        have hbf := ((set3_below (Below.refl (w.heap.size + 1) W5) (w.heap.size + 1) (Nat.le_refl _) (.int .i64 (p : Int)) (.int .i64 kd.op) (.int .i64 kd.n)).setCell (p := ⟨w.heap.size + 1, 3, none⟩) (Nat.le_refl _) (.slice Ak kd.kids.length ck)).drew
        refine bodyPost_ret (results_cellA rfl _ _ (w.heap.size + 1) 53 #[.int .i64 (p : Int), .int .i64 kd.op, .int .i64 kd.n, .slice Ak kd.kids.length ck] (0, 0) _ rfl GX.out Tryd.underlying53 rfl (by kernel_rfl)) rfl ?_
        exact ⟨Q5.out.trans (hbf.mono (Nat.le_succ _)), .inr ⟨p, kd, Ak, ck, hRs.out, rfl, HKW.out.keep fun b hb => ⟨⟨by have := hb.1; omega, Nat.lt_of_lt_of_le hb.2 hbf.size⟩, fun o => HFAR.out ⟨b, o, none⟩ (by show b ≠ _; have := hb.1; omega)⟩⟩⟩
      · have hr1 : (0 : Int) < (r.length : Int) := by omega
        have hRn : Hid (R = none) := by
          show _ = _
          rw [HRd.out, HSO.out]
          cases r with
          | nil => exact absurd rfl hr0
          | cons x xs => rfl
        clear q1 q2 q4 q5 g4 g5
        go_wp2_with fail
        refine bodyPost_ret (results_cellA rfl _ _ (w.heap.size + 1) 53 #[.int .i64 0, .int .i64 0, .int .i64 0, .slice none 0 0] (0, 0) _ rfl (row4_set _ _ _ _ _ _ _ _ _ _ _ Q2.out) Tryd.underlying53 rfl (by kernel_rfl)) rfl ?_
        exact HNo.out hRn.out _ Q2.out Q5.out
end Go.Proofs.YtjkbfogjfgnhiaaDoor
