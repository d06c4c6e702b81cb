/-
  The walks of responseMAC, check, class.
-/
import Derived.Test.YtdalcldilmmgmaaDoorChq
namespace Go.Proofs.YtdalcldilmmgmaaDoor
set_option linter.unusedVariables false
set_option linter.unusedSimpArgs false
open Go.RowKit

set_option maxRecDepth 100000 in
set_option maxHeartbeats 3200000 in
theorem prmac_any (g : Nat) (s : Ch) (body : List UInt8) (vb : Value) (N : Nat) (w : World) (h : CH w g s) (hm : s.rmac.length = 16) (hv : s.cv.length = 8) (hN6 : N ≤ 65535) (hb : SL w w.heap.size vb body) (hl : body.length ≤ 2000) :
    Calls Tryd.prog 50 #[.pointer (some ⟨g, 0, none⟩), .int .i64 N, vb] w (GiV w (rmF s N body)) := by
  have HP2 := Lib.hid fun W => pput_ok N 2 W (by omega) (by omega) (by omega) (by omega)
  have hf : fitM s.rmac s.cv = 0 := by unfold fitM; rw [if_neg]; omega
  have hlt := h.lt
  obtain ⟨R, hR⟩ : ∃ R, R = rmF s N body := ⟨_, rfl⟩
  have HR : Hid (R = macL s.rmac s.cv (body ++ putL N 2)) := hR
  rw [← hR]
  have l2 := putL_length N 2
  have HJ := Lib.hid fun (W : World) va vb' h1 h2 W2 h5 h6 => join2 body (putL N 2) va vb' W h1 h2 (by omega) (by omega) W2 h5 h6
  obtain ⟨A0, A1, A2, A3, A5, c0, c1, c2, c3, c5, hr, h0, h1, h2, h3, h5⟩ := id h
  have HM := Lib.hid fun (W : World) (vj : Value) (hW : Below w.heap.size w W) (hj : SL W W.heap.size vj (body ++ putL N 2)) => by
    have := pmac_any s.rmac s.cv _ (.slice A2 s.rmac.length c2) (.slice A5 s.cv.length c5) vj W (h2.sl.on hW) (h5.sl.on hW) hj (by simp only [List.length_append]; omega)
    rw [hf, macM, if_pos hf, ← HR.out] at this
    exact this
  have HQ : Hid (∀ W, Below w.heap.size w W → W.cell? ⟨g, 2, none⟩ = some (.slice A2 s.rmac.length c2) ∧ W.cell? ⟨g, 5, none⟩ = some (.slice A5 s.cv.length c5)) := fun W hW =>
    ⟨(hW.cell (p := ⟨g, 2, none⟩) hlt).trans (cell_of_row _ _ 2 _ _ _ hr), (hW.cell (p := ⟨g, 5, none⟩) hlt).trans (cell_of_row _ _ 5 _ _ _ hr)⟩
  obtain ⟨Ab, cb, rfl, _, _, _⟩ := id hb
  have HB := Lib.hid hb
  clear h hr h0 h1 h2 h3 h5 hb hR hf l2 hm hv
  go_enter Tryd.func50, Tryd.ntmps50
  go_wp2_with fail
  refine (HP2.out _).mono ?_
  rintro e w4 ⟨v4, rfl, hv4, hb4⟩
  have HB4 := Lib.hid hb4
  have HV4 := Lib.hid hv4
  clear hv4 hb4
  obtain ⟨Av4, cv4, e4, _⟩ := id HV4.out
  rw [putL_length] at e4
  subst e4
  go_wp2_with fail
  have hxb := HB.out.on HB4.out
  have hj := HJ.out w4 _ _ hxb HV4.out
  have ho1 := alloc_below w4 (Obj.cells #[.slice Ab body.length cb, .slice Av4 2 cv4] 22)
  have HJ1 := Lib.hid (hj _ ho1 (heap_alloc_new _ _))
  have HJ2 := Lib.hid (hj _ ho1.drew (heap_alloc_new _ _))
  obtain ⟨u1, u2⟩ := HQ.out _ HB4.out
  have hS6 : True := trivial
  clear hxb hj ho1
  go_region_held3 (fun w' => w'.cell? ⟨g, 2, none⟩ = some (.slice A2 s.rmac.length c2) ∧ w'.cell? ⟨g, 5, none⟩ = some (.slice A5 s.cv.length c5))
    (first | (go_keep; done) | exact hS6)
    (first
      | (go_at_call 42; (with_reducible refine HJ1.out.mono ?_); rintro e w6 ⟨v6, rfl, hv6, hb6⟩; have hb7 := HB4.out.trans (hb6.mono HB4.out.size); have hS6 := HQ.out _ hb7; have hM6 := HM.out _ _ hb7 hv6; have hM7 := HM.out _ _ hb7.drew (hv6.on (Below.refl _ _).drew))
      | (go_at_call 42; (with_reducible refine HJ2.out.mono ?_); rintro e w6 ⟨v6, rfl, hv6, hb6⟩; have hb7 := HB4.out.trans (hb6.mono HB4.out.size); have hS6 := HQ.out _ hb7; have hM6 := HM.out _ _ hb7 hv6; have hM7 := HM.out _ _ hb7.drew (hv6.on (Below.refl _ _).drew))
      | (go_at_call 59; (with_reducible refine hM6.mono ?_); rintro e w8 ⟨v8, rfl, hv8, hb8⟩; have hb9 := hb7.trans (hb8.mono hb7.size); have hS6 := HQ.out _ hb9)
      | (go_at_call 59; (with_reducible refine hM7.mono ?_); rintro e w8 ⟨v8, rfl, hv8, hb8⟩; have hb9 := hb7.drew.trans (hb8.mono hb7.size); have hS6 := HQ.out _ hb9))
  go_wp2_with fail
  go_ret
  exact ⟨_, rfl, by first | exact hv8 | exact hv8.on (Below.refl _ _).drew, by first | exact hb9 | exact hb9.drew⟩

/-- A response. -/
structure Rs where
  data : List UInt8
  sw : Int
def Rs.val (r : Rs) (d : Value) : Value := .agg #[d, .int .i64 r.sw]
/-- Why there can be no response. -/
def ckE (s : Ch) (r : Rs) : Int := if s.exp = false then 14 else if r.sw < 0 ∨ 65535 < r.sw then 1 else 0
/-- An error number as a value of the interface error. -/
def erV (e : Int) : Value := if e = 0 then .nilIface else errV e
set_option maxRecDepth 100000 in
set_option maxHeartbeats 1600000 in
theorem pcheck_any (g : Nat) (s : Ch) (r : Rs) (A : Option Addr) (n k : Nat) (w : World) (h : CH w g s) :
    Calls Tryd.prog 48 #[.pointer (some ⟨g, 0, none⟩), r.val (.slice A n k)] w fun e w' => e = .returned (erV (ckE s r)) ∧ Below w.heap.size w w' := by
  have hlt := h.lt
  obtain ⟨A0, A1, A2, A3, A5, c0, c1, c2, c3, c5, hr, _⟩ := id h
  obtain ⟨data, sw⟩ := r
  simp only [Rs.val]
  have hb1 := alloc_below w (Obj.cells #[.slice A n k, .int .i64 sw] 32)
  have q7 : w.cell? ⟨g, 7, none⟩ = some (.bool s.exp) := cell_of_row _ _ 7 _ _ _ hr
  have HB1 := Lib.hid hb1
  obtain ⟨R, hR⟩ : ∃ R, R = ckE s ⟨data, sw⟩ := ⟨_, rfl⟩
  have HR : Hid (R = if s.exp = false then 14 else if sw < 0 ∨ 65535 < sw then 1 else 0) := hR
  rw [← hR]
  generalize s.exp = ex at *
  have hne : g ≠ w.heap.size := by omega
  clear h hr hR hb1
  cases ex with
  | false =>
    rw [if_pos rfl] at HR
    go_enter Tryd.func48, Tryd.ntmps48
    go_wp2_with fail
    go_ret
    exact ⟨by rw [HR.out]; rfl, HB1.out⟩
  | true =>
    rw [if_neg (by simp)] at HR
    by_cases h0 : sw < 0
    · rw [if_pos (.inl h0)] at HR
      go_enter Tryd.func48, Tryd.ntmps48
      go_wp2_with fail
      go_ret
      exact ⟨by rw [HR.out]; rfl, HB1.out⟩
    · by_cases h1 : 65535 < sw
      · rw [if_pos (.inr h1)] at HR
        go_enter Tryd.func48, Tryd.ntmps48
        go_wp2_with fail
        go_ret
        exact ⟨by rw [HR.out]; rfl, HB1.out⟩
      · rw [if_neg (by omega)] at HR
        go_enter Tryd.func48, Tryd.ntmps48
        go_wp2_with fail
        go_ret
        exact ⟨by rw [HR.out]; rfl, HB1.out⟩

theorem heap2_new (w : World) (a b : Obj) : ((w.alloc a).alloc b).heap[w.heap.size + 1]? = some b := by
  have := heap_alloc_new (w.alloc a) b
  rw [alloc_size] at this
  exact this
/-- Why a side cannot go on with a command. -/
def clE (s : Ch) (x : Cm) : Int := if s.cls = true then 14 else if chkC x ≠ 0 then chkC x else if clsB x.cla = false ∨ (clsK x.cla).chn = true then 4 else 0
def clK (s : Ch) (x : Cm) : Kl := if clE s x = 0 then clsK x.cla else ⟨0, false, false, false⟩
set_option maxRecDepth 100000 in
set_option maxHeartbeats 1600000 in
theorem pclass_any (g : Nat) (s : Ch) (x : Cm) (A : Option Addr) (n k : Nat) (w : World) (h : CH w g s) (hn : n = x.data.length) (hle : -9223372036854775808 ≤ x.le ∧ x.le ≤ 9223372036854775807) :
    Calls Tryd.prog 37 #[.pointer (some ⟨g, 0, none⟩), x.val (.slice A n k)] w fun e w' => e = .returned (.tuple #[(clK s x).val, erV (clE s x)]) ∧ Below w.heap.size w w' := by
  have hlt := h.lt
  obtain ⟨A0, A1, A2, A3, A5, c0, c1, c2, c3, c5, hr, _⟩ := id h
  have HC := Lib.hid fun W => pchk_any x A n k W hn hle
  have HK := Lib.hid fun W => pcls_any x.cla W
  obtain ⟨R, hR⟩ : ∃ R, R = clE s x := ⟨_, rfl⟩
  have HR : Hid (R = if s.cls = true then 14 else if chkC x ≠ 0 then chkC x else if clsB x.cla = false ∨ (clsK x.cla).chn = true then 4 else 0) := hR
  have hk0 : clK s x = if R = 0 then clsK x.cla else ⟨0, false, false, false⟩ := by rw [hR]; rfl
  rw [← hR, hk0]
  obtain ⟨V, hV⟩ : ∃ V, V = (if R = 0 then clsK x.cla else ⟨0, false, false, false⟩ : Kl).val := ⟨_, rfl⟩
  obtain ⟨U, hU⟩ : ∃ U, U = erV R := ⟨_, rfl⟩
  rw [← hV, ← hU]
  obtain ⟨cla, ins, p1, p2, data, le, long⟩ := x
  simp only at hn
  subst hn
  simp only [Cm.val] at *
  have q8 : w.cell? ⟨g, 8, none⟩ = some (.bool s.cls) := cell_of_row _ _ 8 _ _ _ hr
  generalize s.cls = cs at *
  generalize chkC ⟨cla, ins, p1, p2, data, le, long⟩ = C at *
  generalize clsB cla = B at *
  generalize clsK cla = K at *
  obtain ⟨kc, ks, kn, kp⟩ := K
  simp only [Kl.val] at HK
  have HV := Lib.hid hV
  have HU := Lib.hid hU
  have hch : (⟨kc, ks, kn, kp⟩ : Kl).chn = kn := rfl
  rw [hch] at HR
  clear hV hU hch
  have hne : g ≠ w.heap.size := by omega
  have HB2 := Lib.hid (alloc2_below w (Obj.cells #[.int .i64 cla, .int .i64 ins, .int .i64 p1, .int .i64 p2, .slice A data.length k, .int .i64 le, .bool long] 30) (Obj.cells #[.int .i64 0, .bool false, .bool false, .bool false] 77))
  have HN1 := Lib.hid (heap_alloc2_old w (Obj.cells #[.int .i64 cla, .int .i64 ins, .int .i64 p1, .int .i64 p2, .slice A data.length k, .int .i64 le, .bool long] 30) (Obj.cells #[.int .i64 0, .bool false, .bool false, .bool false] 77))
  have HN2 := Lib.hid (heap2_new w (Obj.cells #[.int .i64 cla, .int .i64 ins, .int .i64 p1, .int .i64 p2, .slice A data.length k, .int .i64 le, .bool long] 30) (Obj.cells #[.int .i64 0, .bool false, .bool false, .bool false] 77))
  clear h hr hR hk0 hle
  cases cs with
  | true =>
    rw [if_pos rfl] at HR
    go_enter Tryd.func37, Tryd.ntmps37
    go_wp2_with fail
    exact bodyPost_ret (results_cell2 rfl _ _ (w.heap.size + 1) 77 #[.int .i64 0, .bool false, .bool false, .bool false] (0, 0) _ rfl HN2.out Tryd.underlying77 rfl (by kernel_rfl)) rfl ⟨by rw [HV.out, HU.out, HR.out]; rfl, HB2.out⟩
  | false =>
    rw [if_neg (by simp)] at HR
    go_enter Tryd.func37, Tryd.ntmps37
    go_wp2_with fail
    refine (HC.out _).mono ?_
    rintro e w3 ⟨rfl, hb3⟩
    have hn2 := (hb3.block _ (blk_lt HN2.out)).trans HN2.out
    have hn1 := (hb3.block _ (blk_lt HN1.out)).trans HN1.out
    have HB3 := Lib.hid (HB2.out.trans (hb3.mono HB2.out.size))
    have r0 := cell_of_row _ _ 0 _ _ _ hn2
    have r1 := cell_of_row _ _ 1 _ _ _ hn2
    have r2 := cell_of_row _ _ 2 _ _ _ hn2
    have r3 := cell_of_row _ _ 3 _ _ _ hn2
    have f0 := frozen_of_row _ _ 0 _ _ hn2
    have f1 := frozen_of_row _ _ 1 _ _ hn2
    have f2 := frozen_of_row _ _ 2 _ _ hn2
    have f3 := frozen_of_row _ _ 3 _ _ hn2
    have z0 := cell_of_row _ _ 0 _ _ _ hn1
    have HN3 := Lib.hid hn2
    clear hn1 hn2 hb3
    have hs3 := blk_lt HN3.out
    by_cases hC0 : C = 0
    case neg =>
      rw [if_pos hC0] at HR
      have hCb : (C != 0) = true := by rw [bne_iff_ne]; exact hC0
      have hCe : erV C = errV C := by unfold erV; rw [if_neg hC0]
      have HC0 := Lib.hid hC0
      have HCE := Lib.hid hCe
      clear hC0 hCe
      go_wp2_with fail
      exact bodyPost_ret (results_cell2 rfl _ _ (w.heap.size + 1) 77 #[.int .i64 0, .bool false, .bool false, .bool false] (0, 0) _ rfl (row4_set _ _ _ _ _ _ _ _ _ _ _ HN3.out) Tryd.underlying77 rfl (by kernel_rfl)) rfl ⟨by rw [HV.out, HU.out, HR.out, if_neg HC0.out, HCE.out]; rfl, (((HB3.out.setCell (p := ⟨w.heap.size + 1, 0, none⟩) (Nat.le_succ _) _).setCell (p := ⟨w.heap.size + 1, 1, none⟩) (Nat.le_succ _) _).setCell (p := ⟨w.heap.size + 1, 2, none⟩) (Nat.le_succ _) _).setCell (p := ⟨w.heap.size + 1, 3, none⟩) (Nat.le_succ _) _⟩
    subst hC0
    rw [if_neg (by simp)] at HR
    go_wp2_with fail
    refine (HK.out _).mono ?_
    rintro e w4 ⟨rfl, hb4⟩
    have hn2 := (hb4.block _ (blk_lt HN3.out)).trans HN3.out
    have HN4 := Lib.hid hn2
    have HB4 := Lib.hid (HB3.out.trans (hb4.mono HB3.out.size))
    have hs4 := blk_lt HN4.out
    clear r0 r1 r2 r3 f0 f1 f2 f3 z0 hb4
    have r0 := cell_of_row _ _ 0 _ _ _ hn2
    have r1 := cell_of_row _ _ 1 _ _ _ hn2
    have r2 := cell_of_row _ _ 2 _ _ _ hn2
    have r3 := cell_of_row _ _ 3 _ _ _ hn2
    have f0 := frozen_of_row _ _ 0 _ _ hn2
    have f1 := frozen_of_row _ _ 1 _ _ hn2
    have f2 := frozen_of_row _ _ 2 _ _ hn2
    have f3 := frozen_of_row _ _ 3 _ _ hn2
    have hnx : w.heap.size + 1 ≠ w4.heap.size := by omega
    have hnx2 : w4.heap.size ≠ w.heap.size + 1 := by omega
    clear hn2
    have HFIN : Hid (∀ (a : Int) (b c d : Bool) (o : Obj), Below w.heap.size w (((((w4.setCell ⟨w.heap.size + 1, 0, none⟩ (.int .i64 a)).setCell ⟨w.heap.size + 1, 1, none⟩ (.bool b)).setCell ⟨w.heap.size + 1, 2, none⟩ (.bool c)).setCell ⟨w.heap.size + 1, 3, none⟩ (.bool d)).alloc o) ∧
        (((((w4.setCell ⟨w.heap.size + 1, 0, none⟩ (.int .i64 a)).setCell ⟨w.heap.size + 1, 1, none⟩ (.bool b)).setCell ⟨w.heap.size + 1, 2, none⟩ (.bool c)).setCell ⟨w.heap.size + 1, 3, none⟩ (.bool d)).alloc o).heap[w.heap.size + 1]? = some (.cells #[.int .i64 a, .bool b, .bool c, .bool d] 77 (0, 0))) := fun a b c d o => by
      have h1 := (((HB4.out.setCell (p := ⟨w.heap.size + 1, 0, none⟩) (Nat.le_succ _) (.int .i64 a)).setCell (p := ⟨w.heap.size + 1, 1, none⟩) (Nat.le_succ _) (.bool b)).setCell (p := ⟨w.heap.size + 1, 2, none⟩) (Nat.le_succ _) (.bool c)).setCell (p := ⟨w.heap.size + 1, 3, none⟩) (Nat.le_succ _) (.bool d)
      have h2 := row4_set _ _ _ _ _ _ _ (.int .i64 a) (.bool b) (.bool c) (.bool d) HN4.out
      exact ⟨h1.trans ((alloc_below _ o).mono h1.size), ((alloc_below _ o).block _ (blk_lt h2)).trans h2⟩
    cases B with
    | false =>
      rw [if_pos (.inl rfl)] at HR
      go_wp2_with fail
      exact bodyPost_ret (results_cell2 rfl _ _ (w.heap.size + 1) 77 #[.int .i64 0, .bool false, .bool false, .bool false] (0, 0) _ rfl (HFIN.out _ _ _ _ _).2 Tryd.underlying77 rfl (by kernel_rfl)) rfl ⟨by rw [HV.out, HU.out, HR.out]; rfl, (HFIN.out _ _ _ _ _).1⟩
    | true =>
      cases kn with
      | true =>
        rw [if_pos (.inr rfl)] at HR
        go_wp2_with fail
        exact bodyPost_ret (results_cell2 rfl _ _ (w.heap.size + 1) 77 #[.int .i64 0, .bool false, .bool false, .bool false] (0, 0) _ rfl (HFIN.out _ _ _ _ _).2 Tryd.underlying77 rfl (by kernel_rfl)) rfl ⟨by rw [HV.out, HU.out, HR.out]; rfl, (HFIN.out _ _ _ _ _).1⟩
      | false =>
        rw [if_neg (by simp)] at HR
        go_wp2_with fail
        exact bodyPost_ret (results_cell2 rfl _ _ (w.heap.size + 1) 77 #[.int .i64 kc, .bool ks, .bool false, .bool kp] (0, 0) _ rfl (HFIN.out _ _ _ _ _).2 Tryd.underlying77 rfl (by kernel_rfl)) rfl ⟨by rw [HV.out, HU.out, HR.out]; rfl, (HFIN.out _ _ _ _ _).1⟩
end Go.Proofs.YtdalcldilmmgmaaDoor
