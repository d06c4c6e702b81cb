/-
  The reference: right and Right.
-/
import Derived.Test.YtahnmnbjgbfeaaaLef
namespace Go.Proofs.Ytahnmnbjgbfeaaa
set_option linter.unusedVariables false
set_option linter.unusedSimpArgs false
open Go.RowKit

theorem cons_valid {t : Int} (h : consB t = true) : validB t = true := by
  unfold consB at h
  simp only [Bool.and_eq_true] at h
  exact h.1

set_option maxRecDepth 100000 in
set_option maxHeartbeats 3200000 in
theorem right_step (ts : List T) (ih : ∀ (ts' : List T) (v : Value) (d : Int) (w : World), depL ts' < depL ts → 1 ≤ d → d ≤ 9 → TL w w.heap.size v ts' →
      Calls Try.prog 90 #[v, .int .i64 d] w fun e w' => e = .returned (.bool (okL d ts')) ∧ Below w.heap.size w w')
    (v : Value) (d : Int) (w : World) (hd : 1 ≤ d) (hd2 : d ≤ 9) (hv : TL w w.heap.size v ts) :
    Calls Try.prog 90 #[v, .int .i64 d] w fun e w' => e = .returned (.bool (okL d ts)) ∧ Below w.heap.size w w' := by
  have IH := Lib.hid ih
  clear ih
  obtain ⟨A, c, rfl, h1, h2, h3⟩ := hv
  unfold maxLen at h2
  go_enter Try.func90, Try.ntmps90
  go_wp2_with fail
  go_loopw [5] (fun i wr => ∃ k : Nat, k ≤ ts.length ∧ i = .int .i64 k ∧ Below w.heap.size w wr ∧ Hid (okL d ts = okL d (ts.drop k))) (fun i _ => ts.length - (intOf i).toNat)
  case atStart => exact ⟨0, Nat.zero_le _, rfl, Below.refl _ _, rfl⟩
  case round =>
    obtain ⟨k, hk, rfl, hbel, hok⟩ := hrel
    by_cases hkl : k < ts.length
    · obtain ⟨b, o, rfl, hb, hts⟩ := h3.out (by omega)
      have hta := TsAt.get hts hkl
      have hst := (hok.out.trans (okL_drop d ts k hkl))
      have hdp := depL_get ts k hkl
      obtain ⟨t, ht⟩ : ∃ t, t = ts[k] := ⟨_, rfl⟩
      rw [← ht] at hta hst hdp
      rw [ok_parts] at hst
      rw [← dep_kids] at hdp
      have hta' := TAt.keep hbel.size (fun p hp => hbel.cell hp) t b _ hb hta
      obtain ⟨A1, c1, A2, c2, g1, g2, g3, hv1, hu1⟩ := hta'.cells
      have hsz := hbel.size
      have hobj : objOk t = if consB t.tag then decide (t.val.length = 0) else validB t.tag && decide (t.kids.length = 0) := rfl
      obtain ⟨tag, htag⟩ : ∃ x, x = t.tag := ⟨_, rfl⟩
      rw [← htag] at g1 hobj
      obtain ⟨V, hV⟩ : ∃ x, x = t.val.length := ⟨_, rfl⟩
      rw [← hV] at g2 hobj
      obtain ⟨M, hM⟩ : ∃ x, x = t.kids.length := ⟨_, rfl⟩
      rw [← hM] at g3 hu1 hobj
      have hbn := alloc_below wr (Obj.cells #[Value.int IntKind.i64 tag, Value.slice A1 V c1, Value.slice A2 M c2] 58)
      have HUN := Lib.hid (hu1.on hbn)
      have HST := Lib.hid hst
      have HDP := Lib.hid hdp
      have HOBJ := Lib.hid hobj
      have HM := Lib.hid hM
      clear hts hta hta' ht hst hdp hobj hv1 hu1 hV hM htag hok
      by_cases hd8 : d ≤ 8
      · have HST2 : Hid (okL d ts = (objOk t && okL (d + 1) t.kids && okL d (ts.drop (k + 1)))) := by
          have := HST.out
          rw [decide_eq_true hd8, Bool.true_and] at this
          exact this
        clear HST
        obtain ⟨Vb, hVb⟩ : ∃ x, x = validB tag := ⟨_, rfl⟩
        have hc1 := fun W => rvalid_any tag W
        simp only [← hVb] at hc1
        have HC1 := Lib.hid hc1
        obtain ⟨Cb, hCb⟩ : ∃ x, x = consB tag := ⟨_, rfl⟩
        have hc2 := fun W => rcons_any tag W
        simp only [← hCb] at hc2
        have HC2 := Lib.hid hc2
        have hobj := HOBJ.out
        rw [← hVb, ← hCb] at hobj
        have hcv : Cb = true → Vb = true := fun h => by rw [hVb]; exact cons_valid (by rw [← hCb]; exact h)
        clear hc1 hc2 HOBJ hVb hCb
        cases Vb with
        | false =>
          have hCf : Cb = false := by
            cases Cb with
            | false => rfl
            | true => exact absurd (hcv rfl) (by decide)
          have HR : Hid (okL d ts = false) := by
            show _ = _
            rw [HST2.out, hobj, hCf]; rfl
          clear hobj hcv hCf
          go_wp2_with (go_at_call 45; refine (HC1.out _).mono ?_; rintro e w' ⟨rfl, rfl⟩)
          go_ret
          exact ⟨ret_bool HR.out.symm, hbel.trans ((alloc_below _ _).mono hsz)⟩
        | true =>
          cases Cb with
          | true =>
            rw [if_pos rfl] at hobj
            by_cases hV0 : V = 0
            · obtain ⟨Y, hY⟩ : ∃ Y, Y = okL (d + 1) t.kids := ⟨_, rfl⟩
              have hih := fun W hu => IH.out t.kids (.slice A2 M c2) (d + 1) W (by have := HDP.out; omega) (by omega) (by omega) hu
              simp only [← hY] at hih
              have HI := Lib.hid hih
              have HR : Hid (okL d ts = (Y && okL d (ts.drop (k + 1)))) := by
                show _ = _
                rw [HST2.out, hobj, decide_eq_true hV0, Bool.true_and, ← hY]
              have hV00 : ¬ 0 < V := by omega
              clear hih hY hobj hcv hV0
              cases Y with
              | false =>
                go_wp2_with (first
                  | (go_at_call 45; refine (HC1.out _).mono ?_; rintro e w' ⟨rfl, rfl⟩)
                  | (go_at_call 47; refine (HC2.out _).mono ?_; rintro e w' ⟨rfl, rfl⟩)
                  | (go_at_call 90; refine (HI.out _ HUN.out).mono ?_; rintro e w3 ⟨rfl, hb3⟩))
                go_ret
                exact ⟨ret_bool (by rw [HR.out]; rfl), hbel.trans ((after_alloc hb3).mono hsz)⟩
              | true =>
                go_wp2_with (first
                  | (go_at_call 45; refine (HC1.out _).mono ?_; rintro e w' ⟨rfl, rfl⟩)
                  | (go_at_call 47; refine (HC2.out _).mono ?_; rintro e w' ⟨rfl, rfl⟩)
                  | (go_at_call 90; refine (HI.out _ HUN.out).mono ?_; rintro e w3 ⟨rfl, hb3⟩))
                go_roundw
                case rel => exact ⟨k + 1, by omega, by go_num, hbel.trans ((after_alloc hb3).mono hsz), by show _ = _; rw [HR.out]; rfl⟩
                case measure => simp [intOf]; omega
            · have HR : Hid (okL d ts = false) := by
                show _ = _
                rw [HST2.out, hobj, decide_eq_false hV0]; rfl
              have hV00 : 0 < V := by omega
              clear hobj hcv hV0
              go_wp2_with (first
                | (go_at_call 45; refine (HC1.out _).mono ?_; rintro e w' ⟨rfl, rfl⟩)
                | (go_at_call 47; refine (HC2.out _).mono ?_; rintro e w' ⟨rfl, rfl⟩))
              go_ret
              exact ⟨ret_bool HR.out.symm, hbel.trans ((alloc_below _ _).mono hsz)⟩
          | false =>
            rw [if_neg (by decide), Bool.true_and] at hobj
            by_cases hM0 : M = 0
            · have hkn : t.kids = [] := List.eq_nil_of_length_eq_zero (by rw [← HM.out]; exact hM0)
              have HR : Hid (okL d ts = okL d (ts.drop (k + 1))) := by
                show _ = _
                rw [HST2.out, hobj, decide_eq_true hM0, hkn, okL]; rfl
              have hM00 : ¬ 0 < M := by omega
              clear hobj hcv hM0 hkn
              go_wp2_with (first
                | (go_at_call 45; refine (HC1.out _).mono ?_; rintro e w' ⟨rfl, rfl⟩)
                | (go_at_call 47; refine (HC2.out _).mono ?_; rintro e w' ⟨rfl, rfl⟩))
              go_roundw
              case rel => exact ⟨k + 1, by omega, by go_num, hbel.trans ((alloc_below _ _).mono hsz), by show _ = _; rw [HR.out]⟩
              case measure => simp [intOf]; omega
            · have HR : Hid (okL d ts = false) := by
                show _ = _
                rw [HST2.out, hobj, decide_eq_false hM0]; rfl
              have hM00 : 0 < M := by omega
              clear hobj hcv hM0
              go_wp2_with (first
                | (go_at_call 45; refine (HC1.out _).mono ?_; rintro e w' ⟨rfl, rfl⟩)
                | (go_at_call 47; refine (HC2.out _).mono ?_; rintro e w' ⟨rfl, rfl⟩))
              go_ret
              exact ⟨ret_bool HR.out.symm, hbel.trans ((alloc_below _ _).mono hsz)⟩
      · have HR : Hid (okL d ts = false) := by
          have := HST.out
          rw [decide_eq_false hd8, Bool.false_and, Bool.false_and, Bool.false_and] at this
          exact this
        clear HST HOBJ
        go_wp2_with fail
        go_ret
        exact ⟨ret_bool HR.out.symm, hbel.trans ((alloc_below _ _).mono hsz)⟩
    · have hke : k = ts.length := by omega
      have HOK : Hid (okL d ts = true) := by
        show _ = _
        rw [hok.out, hke, List.drop_length, okL]
      clear hok
      subst hke
      go_wp2_with fail
      go_ret
      exact ⟨ret_bool HOK.out.symm, hbel⟩

theorem right_any : ∀ (n : Nat) (ts : List T) (v : Value) (d : Int) (w : World), depL ts < n → 1 ≤ d → d ≤ 9 → TL w w.heap.size v ts →
    Calls Try.prog 90 #[v, .int .i64 d] w fun e w' => e = .returned (.bool (okL d ts)) ∧ Below w.heap.size w w'
  | 0, ts, v, d, w, h, _, _, _ => absurd h (by omega)
  | n + 1, ts, v, d, w, h, h1, h2, hv => right_step ts (fun ts' v' d' w' h' => right_any n ts' v' d' w' (by omega)) v d w h1 h2 hv

set_option maxRecDepth 100000 in
theorem rright_any (ts : List T) (v : Value) (w : World) (hv : TL w w.heap.size v ts) :
    Calls Try.prog 72 #[v] w fun e w' => e = .returned (.bool (okL 1 ts)) ∧ Below w.heap.size w w' := by
  have H := Lib.hid (right_any (depL ts + 1) ts v 1 w (by omega) (by omega) (by omega) hv)
  clear hv
  go_enter Try.func72, Try.ntmps72
  go_wp2_with (go_at_call 90; refine H.out.mono ?_; rintro e w2 ⟨rfl, hb2⟩)
  go_ret
  exact ⟨rfl, hb2⟩
end Go.Proofs.Ytahnmnbjgbfeaaa
