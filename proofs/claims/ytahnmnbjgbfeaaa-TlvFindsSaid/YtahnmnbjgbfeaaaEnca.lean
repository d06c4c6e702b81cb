/-
  The walks of tagField, lengthField, validObject and validList.
-/
import Derived.Test.YtahnmnbjgbfeaaaTre
import Derived.Test.YtahnmnbjgbfeaaaExa
namespace Go.Proofs.Ytahnmnbjgbfeaaa
set_option linter.unusedVariables false
set_option linter.unusedSimpArgs false
open Go.RowKit

theorem SL.new (w : World) (cs : Array Value) (l : List UInt8) (hcs : cs = (l.map bv).toArray) (h : l.length ≤ 1000) :
    SL (w.alloc (.cells cs 5)) (w.alloc (.cells cs 5)).heap.size (.slice (some ⟨w.heap.size, 0, none⟩) l.length l.length) l := by
  subst hcs; exact SL.lit' w l h

set_option maxRecDepth 100000 in
theorem tagF_any (t : Int) (w : World) (h1 : 1 ≤ t) (h2 : t ≤ 65535) :
    Calls Try.prog 88 #[.int .i64 t] w fun e w' => ∃ v', e = .returned v' ∧ SL w' w'.heap.size v' (tagF t) ∧ Below w.heap.size w w' := by
  obtain ⟨N, rfl⟩ := Int.eq_ofNat_of_zero_le (show 0 ≤ t by omega)
  by_cases h : 255 < (N : Int)
  · have HT := Lib.hid (show tagF (N : Int) = putL N 2 by unfold tagF; rw [if_pos h, Int.toNat_natCast])
    have HC := Lib.hid (pput_ok N 2 w (by omega) (by omega) (by omega) (by omega))
    go_enter Try.func88, Try.ntmps88
    go_wp2_with (go_at_call 35; refine HC.out.mono ?_; rintro e w' ⟨v', rfl, hv', hb'⟩)
    go_ret
    exact ⟨v', rfl, by rw [HT.out]; exact hv', hb'⟩
  · have HT := Lib.hid (show tagF (N : Int) = putL N 1 by unfold tagF; rw [if_neg h, Int.toNat_natCast])
    have HC := Lib.hid (pput_ok N 1 w (by omega) (by omega) (by omega) (by omega))
    have h' : (N : Int) ≤ 255 := by omega
    clear h
    go_enter Try.func88, Try.ntmps88
    go_wp2_with (go_at_call 35; refine HC.out.mono ?_; rintro e w' ⟨v', rfl, hv', hb'⟩)
    go_ret
    exact ⟨v', rfl, by rw [HT.out]; exact hv', hb'⟩

theorem natb (n : Nat) : ((n : Int) == 0) = decide (n = 0) := by rw [Bool.eq_iff_iff]; simp
theorem bv_ofNat (n : Nat) (z : Int) (h : z = ((n % 256 : Nat) : Int)) : Value.int .u8 z = bv (UInt8.ofNat n) := by
  subst h; simp [bv]
set_option maxRecDepth 100000 in
theorem lenF_any (n : Nat) (w : World) (h1 : n ≤ 10000000) :
    Calls Try.prog 89 #[.int .i64 n] w fun e w' => ∃ v', e = .returned v' ∧ SL w' w'.heap.size v' (lenF n) ∧ Below w.heap.size w w' := by
  by_cases h : n < 128
  · have HT := Lib.hid (show lenF n = [UInt8.ofNat n] by unfold lenF; rw [if_pos h])
    go_enter Try.func89, Try.ntmps89
    go_wp2
    go_ret
    refine ⟨_, rfl, ?_, alloc_below _ _⟩
    rw [HT.out]
    exact SL.new w _ [UInt8.ofNat n] (by simp [bv]; omega) (by simp)
  · by_cases h' : n ≤ 255
    · have HT := Lib.hid (show lenF n = [129, UInt8.ofNat n] by unfold lenF; rw [if_neg h, if_pos h'])
      go_enter Try.func89, Try.ntmps89
      go_wp2
      go_ret
      refine ⟨_, rfl, ?_, alloc_below _ _⟩
      rw [HT.out]
      exact SL.new w _ [129, UInt8.ofNat n] (by simp [bv]; omega) (by simp)
    · have HT := Lib.hid (show lenF n = [130, UInt8.ofNat (n / 256), UInt8.ofNat n] by unfold lenF; rw [if_neg h, if_neg h'])
      go_enter Try.func89, Try.ntmps89
      go_wp2
      go_ret
      refine ⟨_, rfl, ?_, alloc_below _ _⟩
      rw [HT.out]
      exact SL.new w _ [130, UInt8.ofNat (n / 256), UInt8.ofNat n] (by simp [bv]) (by simp)

set_option maxRecDepth 100000 in
set_option maxHeartbeats 1600000 in
theorem objOk_any (t : T) (v u : Value) (w : World) (hv : SL w w.heap.size v t.val) (hu : TL w w.heap.size u t.kids) :
    Calls Try.prog 87 #[.agg #[.int .i64 t.tag, v, u]] w fun e w' => e = .returned (.bool (objOk t)) ∧ Below w.heap.size w w' := by
  obtain ⟨A1, c1, rfl, _, _, _⟩ := hv
  obtain ⟨A2, c2, rfl, _, _, _⟩ := hu
  obtain ⟨tag, htag⟩ : ∃ x, x = t.tag := ⟨_, rfl⟩
  rw [← htag]
  have hc := fun W => pcons_any tag W
  have hv := fun W => pvalid_any tag W
  have hb : objOk t = if consB tag then decide (t.val.length = 0) else validB tag && decide (t.kids.length = 0) := by unfold objOk; rw [htag]
  obtain ⟨n1, hn1⟩ : ∃ x, x = t.val.length := ⟨_, rfl⟩
  obtain ⟨n2, hn2⟩ : ∃ x, x = t.kids.length := ⟨_, rfl⟩
  rw [← hn1, ← hn2] at hb ⊢
  have HB := Lib.hid hb
  clear hb htag hn1 hn2
  by_cases h1 : consB tag = true
  · rw [h1] at hc
    have HC := Lib.hid hc
    have HR := Lib.hid (show objOk t = decide (n1 = 0) by rw [HB.out, if_pos h1])
    clear hc hv h1
    go_enter Try.func87, Try.ntmps87
    go_wp2_with (go_at_call 46; refine (HC.out _).mono ?_; rintro e w' ⟨rfl, rfl⟩)
    go_ret
    exact ⟨ret_bool (by rw [HR.out]; exact natb n1), alloc_below _ _⟩
  · have h1' : consB tag = false := by simpa using h1
    rw [h1'] at hc
    have HC := Lib.hid hc
    have HR := Lib.hid (show objOk t = (validB tag && decide (n2 = 0)) by rw [HB.out, if_neg h1])
    by_cases h2 : validB tag = true
    · rw [h2] at hv
      have HV := Lib.hid hv
      have HR2 := Lib.hid (show objOk t = decide (n2 = 0) by rw [HR.out, h2, Bool.true_and])
      clear hc hv h1 h1' h2
      go_enter Try.func87, Try.ntmps87
      go_wp2_with (first
        | (go_at_call 46; refine (HC.out _).mono ?_; rintro e w' ⟨rfl, rfl⟩)
        | (go_at_call 44; refine (HV.out _).mono ?_; rintro e w' ⟨rfl, rfl⟩))
      go_ret
      exact ⟨ret_bool (by rw [HR2.out]; exact natb n2), alloc_below _ _⟩
    · have h2' : validB tag = false := by simpa using h2
      rw [h2'] at hv
      have HV := Lib.hid hv
      have HR2 := Lib.hid (show objOk t = false by rw [HR.out, h2', Bool.false_and])
      clear hc hv h1 h1' h2 h2'
      go_enter Try.func87, Try.ntmps87
      go_wp2_with (first
        | (go_at_call 46; refine (HC.out _).mono ?_; rintro e w' ⟨rfl, rfl⟩)
        | (go_at_call 44; refine (HV.out _).mono ?_; rintro e w' ⟨rfl, rfl⟩))
      go_ret
      exact ⟨ret_bool (by rw [HR2.out]), alloc_below _ _⟩

/-- A cell of the block that has just been made, in a world that is the same below the new size. -/
theorem new_cell {w w' : World} {cs : Array Value} {ty : TypeId} (h : Below (w.alloc (.cells cs ty)).heap.size (w.alloc (.cells cs ty)) w') (i : Nat) (u : Value) (hu : cs[i]? = some u) : w'.cell? ⟨w.heap.size, i, none⟩ = some u := by
  rw [h.cell (p := ⟨w.heap.size, i, none⟩) (by rw [alloc_size]; exact Nat.lt_succ_self _), cell_of_row _ w.heap.size i cs ty (0, 0) (heap_alloc_new w _), hu]

set_option maxRecDepth 100000 in
set_option maxHeartbeats 3200000 in
theorem okL_step (ts : List T) (ih : ∀ (ts' : List T) (v : Value) (d : Int) (w : World), depL ts' < depL ts → 1 ≤ d → d ≤ 9 → TL w w.heap.size v ts' →
      Calls Try.prog 69 #[v, .int .i64 d] w fun e w' => e = .returned (.bool (okL d ts')) ∧ Below w.heap.size w w')
    (v : Value) (d : Int) (w : World) (hd : 1 ≤ d) (hd2 : d ≤ 9) (hv : TL w w.heap.size v ts) :
    Calls Try.prog 69 #[v, .int .i64 d] w fun e w' => e = .returned (.bool (okL d ts)) ∧ Below w.heap.size w w' := by
  have IH := Lib.hid ih
  clear ih
  obtain ⟨A, c, rfl, h1, h2, h3⟩ := hv
  unfold maxLen at h2
  go_enter Try.func69, Try.ntmps69
  go_wp2_with fail
  go_loopw [9] (fun i wr => ∃ k : Nat, k ≤ ts.length ∧ i = .int .i64 k ∧ Below w.heap.size w wr ∧ Hid (okL d ts = okL d (ts.drop k))) (fun i _ => ts.length - (intOf i).toNat)
  case atStart => exact ⟨0, Nat.zero_le _, rfl, Below.refl _ _, rfl⟩
  case round =>
    obtain ⟨k, hk, rfl, hbel, hok⟩ := hrel
    by_cases hkl : k < ts.length
    · obtain ⟨b, o, rfl, hb, hts⟩ := h3.out (by omega)
      have hta := TsAt.get hts hkl
      have hst := (hok.out.trans (okL_drop d ts k hkl))
      have hdp := depL_get ts k hkl
      obtain ⟨t, ht⟩ : ∃ t, t = ts[k] := ⟨_, rfl⟩
      rw [← ht] at hta hst hdp
      rw [ok_parts] at hst
      rw [← dep_kids] at hdp
      have hta' := TAt.keep hbel.size (fun p hp => hbel.cell hp) t b _ hb hta
      obtain ⟨A1, c1, A2, c2, g1, g2, g3, hv1, hu1⟩ := hta'.cells
      have hsz := hbel.size
      have HST := Lib.hid hst
      have HDP := Lib.hid hdp
      clear hts hta hta' ht hst hdp
      by_cases hd8 : d ≤ 8
      · have hd8b : decide (d ≤ 8) = true := decide_eq_true hd8
        have HST2 : Hid (okL d ts = (objOk t && okL (d + 1) t.kids && okL d (ts.drop (k + 1)))) := by
          have := HST.out
          rw [hd8b, Bool.true_and] at this
          exact this
        clear hd8b
        obtain ⟨X, hX⟩ : ∃ X, X = objOk t := ⟨_, rfl⟩
        have hc := fun W hv hu => objOk_any t (.slice A1 t.val.length c1) (.slice A2 t.kids.length c2) W hv hu
        simp only [← hX] at hc
        have HX := Lib.hid hX
        have HC := Lib.hid hc
        clear hc hX
        have hbn := alloc_below wr (Obj.cells #[Value.int IntKind.i64 t.tag, Value.slice A1 t.val.length c1, Value.slice A2 t.kids.length c2] 58)
        have HVN := Lib.hid (hv1.on hbn)
        have HUN := Lib.hid (hu1.on hbn)
        clear hbn
        cases X with
        | false =>
          go_wp2_with (go_at_call 87; refine (HC.out _ HVN.out HUN.out).mono ?_; rintro e w2 ⟨rfl, hb2⟩)
          go_ret
          exact ⟨ret_bool (by rw [HST2.out, ← HX.out]; rfl), hbel.trans ((after_alloc hb2).mono hsz)⟩
        | true =>
          obtain ⟨Y, hY⟩ : ∃ Y, Y = okL (d + 1) t.kids := ⟨_, rfl⟩
          have hih := fun W hu => IH.out t.kids (.slice A2 t.kids.length c2) (d + 1) W (Nat.lt_of_succ_le HDP.out) (by omega) (by omega) hu
          simp only [← hY] at hih
          have HY := Lib.hid hY
          have HI := Lib.hid hih
          clear hih hY
          cases Y with
          | false =>
            go_wp2_with (first
              | (go_at_call 87; refine (HC.out _ HVN.out HUN.out).mono ?_; rintro e w2 ⟨rfl, hb2⟩; have g4 := new_cell hb2 2 _ rfl; have HU2 := Lib.hid (HUN.out.on hb2))
              | (go_at_call 69; refine (HI.out _ HU2.out).mono ?_; rintro e w3 ⟨rfl, hb3⟩))
            go_ret
            have hw2 := hbel.trans ((after_alloc hb2).mono hsz)
            exact ⟨ret_bool (by rw [HST2.out, ← HX.out, ← HY.out]; rfl), hw2.trans (hb3.mono hw2.size)⟩
          | true =>
            go_wp2_with (first
              | (go_at_call 87; refine (HC.out _ HVN.out HUN.out).mono ?_; rintro e w2 ⟨rfl, hb2⟩; have g4 := new_cell hb2 2 _ rfl; have HU2 := Lib.hid (HUN.out.on hb2))
              | (go_at_call 69; refine (HI.out _ HU2.out).mono ?_; rintro e w3 ⟨rfl, hb3⟩))
            have hw2 := hbel.trans ((after_alloc hb2).mono hsz)
            go_roundw
            case rel => exact ⟨k + 1, by omega, by go_num, hw2.trans (hb3.mono hw2.size), by show _ = _; rw [HST2.out, ← HX.out, ← HY.out]; rfl⟩
            case measure => simp [intOf]; omega
      · have hd8b : decide (d ≤ 8) = false := decide_eq_false hd8
        have HST2 : Hid (okL d ts = false) := by
          have := HST.out
          rw [hd8b, Bool.false_and, Bool.false_and, Bool.false_and] at this
          exact this
        clear hd8b
        go_wp2_with fail
        go_ret
        exact ⟨ret_bool HST2.out.symm, hbel.trans ((alloc_below _ _).mono hsz)⟩
    · have hke : k = ts.length := by omega
      have HOK : Hid (okL d ts = true) := by
        show _ = _
        rw [hok.out, hke, List.drop_length, okL]
      clear hok
      subst hke
      go_wp2_with fail
      go_ret
      exact ⟨ret_bool HOK.out.symm, hbel⟩

theorem okL_any : ∀ (n : Nat) (ts : List T) (v : Value) (d : Int) (w : World), depL ts < n → 1 ≤ d → d ≤ 9 → TL w w.heap.size v ts →
    Calls Try.prog 69 #[v, .int .i64 d] w fun e w' => e = .returned (.bool (okL d ts)) ∧ Below w.heap.size w w'
  | 0, ts, v, d, w, h, _, _, _ => absurd h (by omega)
  | n + 1, ts, v, d, w, h, h1, h2, hv => okL_step ts (fun ts' v' d' w' h' => okL_any n ts' v' d' w' (by omega)) v d w h1 h2 hv
end Go.Proofs.Ytahnmnbjgbfeaaa
