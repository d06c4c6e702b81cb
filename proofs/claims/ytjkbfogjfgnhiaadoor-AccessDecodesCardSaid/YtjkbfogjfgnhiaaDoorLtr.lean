/-
  Carried over from the seat of layers 1 and 2: Refa,Refb,Refc,Wlkn.
-/
import Derived.Test.YtjkbfogjfgnhiaaDoorByt

namespace Go.Proofs.YtjkbfogjfgnhiaaDoor
set_option linter.unusedVariables false
set_option linter.unusedSimpArgs false
open Go.RowKit

theorem TL.more {w : World} {B B' : Nat} {v : Value} {ts : List T} (h : TL w B v ts) (hB : B ≤ B') : TL w B' v ts := h.keep hB fun _ _ => rfl
theorem cons_valid {t : Int} (h : consB t = true) : validB t = true := by
  unfold consB at h
  simp only [Bool.and_eq_true] at h
  exact h.1

set_option maxRecDepth 100000 in
set_option maxHeartbeats 3200000 in
theorem right_step (ts : List T) (ih : ∀ (ts' : List T) (v : Value) (d : Int) (w : World), depL ts' < depL ts → 1 ≤ d → d ≤ 9 → TL w w.heap.size v ts' →
      Calls Tryd.prog 95 #[v, .int .i64 d] w fun e w' => e = .returned (.bool (okL d ts')) ∧ Below w.heap.size w w')
    (v : Value) (d : Int) (w : World) (hd : 1 ≤ d) (hd2 : d ≤ 9) (hv : TL w w.heap.size v ts) :
    Calls Tryd.prog 95 #[v, .int .i64 d] w fun e w' => e = .returned (.bool (okL d ts)) ∧ Below w.heap.size w w' := by
  have IH := Lib.hid ih
  clear ih
  obtain ⟨A, c, rfl, h1, h2, h3⟩ := hv
  unfold maxLen at h2
  go_enter Tryd.func95, Tryd.ntmps95
  go_wp2_with fail
  go_loopw [5] (fun i wr => ∃ k : Nat, k ≤ ts.length ∧ i = .int .i64 k ∧ Below w.heap.size w wr ∧ Hid (okL d ts = okL d (ts.drop k))) (fun i _ => ts.length - (intOf i).toNat)
  case atStart => exact ⟨0, Nat.zero_le _, rfl, Below.refl _ _, rfl⟩
  case round =>
    obtain ⟨k, hk, rfl, hbel, hok⟩ := hrel
    by_cases hkl : k < ts.length
    · obtain ⟨b, o, rfl, hb, hts⟩ := h3.out (by omega)
      have hta := TsAt.get hts hkl
      have hst := (hok.out.trans (okL_drop d ts k hkl))
      have hdp := depL_get ts k hkl
      obtain ⟨t, ht⟩ : ∃ t, t = ts[k] := ⟨_, rfl⟩
      rw [← ht] at hta hst hdp
      rw [ok_partsT] at hst
      rw [← dep_kidsT] at hdp
      have hta' := TAt.keep hbel.size (fun p hp => hbel.cell hp) t b _ hb hta
      obtain ⟨A1, c1, A2, c2, g1, g2, g3, hv1, hu1⟩ := hta'.cells
      have hsz := hbel.size
      have hobj : objOk t = if consB t.tag then decide (t.val.length = 0) else validB t.tag && decide (t.kids.length = 0) := rfl
      obtain ⟨tag, htag⟩ : ∃ x, x = t.tag := ⟨_, rfl⟩
      rw [← htag] at g1 hobj
      obtain ⟨V, hV⟩ : ∃ x, x = t.val.length := ⟨_, rfl⟩
      rw [← hV] at g2 hobj
      obtain ⟨M, hM⟩ : ∃ x, x = t.kids.length := ⟨_, rfl⟩
      rw [← hM] at g3 hu1 hobj
      have hbn := alloc_below wr (Obj.cells #[Value.int IntKind.i64 tag, Value.slice A1 V c1, Value.slice A2 M c2] 70)
      have HUN := Lib.hid (hu1.on hbn)
      have HST := Lib.hid hst
      have HDP := Lib.hid hdp
      have HOBJ := Lib.hid hobj
      have HM := Lib.hid hM
      clear hts hta hta' ht hst hdp hobj hv1 hu1 hV hM htag hok
      by_cases hd8 : d ≤ 8
      · have HST2 : Hid (okL d ts = (objOk t && okL (d + 1) t.kids && okL d (ts.drop (k + 1)))) := by
          have := HST.out
          rw [decide_eq_true hd8, Bool.true_and] at this
          exact this
        clear HST
        obtain ⟨Vb, hVb⟩ : ∃ x, x = validB tag := ⟨_, rfl⟩
        have hc1 := fun W => rvalid_any tag W
        simp only [← hVb] at hc1
        have HC1 := Lib.hid hc1
        obtain ⟨Cb, hCb⟩ : ∃ x, x = consB tag := ⟨_, rfl⟩
        have hc2 := fun W => rcons_any tag W
        simp only [← hCb] at hc2
        have HC2 := Lib.hid hc2
        have hobj := HOBJ.out
        rw [← hVb, ← hCb] at hobj
        have hcv : Cb = true → Vb = true := fun h => by rw [hVb]; exact cons_valid (by rw [← hCb]; exact h)
        clear hc1 hc2 HOBJ hVb hCb
        cases Vb with
        | false =>
          have hCf : Cb = false := by
            cases Cb with
            | false => rfl
            | true => exact absurd (hcv rfl) (by decide)
          have HR : Hid (okL d ts = false) := by
            show _ = _
            rw [HST2.out, hobj, hCf]; rfl
          clear hobj hcv hCf
          go_wp2_with (go_at_call 110; refine (HC1.out _).mono ?_; rintro e w' ⟨rfl, rfl⟩)
          go_ret
          exact ⟨ret_bool HR.out.symm, hbel.trans ((alloc_below _ _).mono hsz)⟩
        | true =>
          cases Cb with
          | true =>
            rw [if_pos rfl] at hobj
            by_cases hV0 : V = 0
            · obtain ⟨Y, hY⟩ : ∃ Y, Y = okL (d + 1) t.kids := ⟨_, rfl⟩
              have hih := fun W hu => IH.out t.kids (.slice A2 M c2) (d + 1) W (by have := HDP.out; omega) (by omega) (by omega) hu
              simp only [← hY] at hih
              have HI := Lib.hid hih
              have HR : Hid (okL d ts = (Y && okL d (ts.drop (k + 1)))) := by
                show _ = _
                rw [HST2.out, hobj, decide_eq_true hV0, Bool.true_and, ← hY]
              have hV00 : ¬ 0 < V := by omega
              clear hih hY hobj hcv hV0
              cases Y with
              | false =>
                go_wp2_with (first
                  | (go_at_call 110; refine (HC1.out _).mono ?_; rintro e w' ⟨rfl, rfl⟩)
                  | (go_at_call 96; refine (HC2.out _).mono ?_; rintro e w' ⟨rfl, rfl⟩)
                  | (go_at_call 95; refine (HI.out _ HUN.out).mono ?_; rintro e w3 ⟨rfl, hb3⟩))
                go_ret
                exact ⟨ret_bool (by rw [HR.out]; rfl), hbel.trans ((after_alloc hb3).mono hsz)⟩
              | true =>
                go_wp2_with (first
                  | (go_at_call 110; refine (HC1.out _).mono ?_; rintro e w' ⟨rfl, rfl⟩)
                  | (go_at_call 96; refine (HC2.out _).mono ?_; rintro e w' ⟨rfl, rfl⟩)
                  | (go_at_call 95; refine (HI.out _ HUN.out).mono ?_; rintro e w3 ⟨rfl, hb3⟩))
                go_roundw
                case rel => exact ⟨k + 1, by omega, by go_num, hbel.trans ((after_alloc hb3).mono hsz), by show _ = _; rw [HR.out]; rfl⟩
                case measure => simp [intOf]; omega
            · have HR : Hid (okL d ts = false) := by
                show _ = _
                rw [HST2.out, hobj, decide_eq_false hV0]; rfl
              have hV00 : 0 < V := by omega
              clear hobj hcv hV0
              go_wp2_with (first
                | (go_at_call 110; refine (HC1.out _).mono ?_; rintro e w' ⟨rfl, rfl⟩)
                | (go_at_call 96; refine (HC2.out _).mono ?_; rintro e w' ⟨rfl, rfl⟩))
              go_ret
              exact ⟨ret_bool HR.out.symm, hbel.trans ((alloc_below _ _).mono hsz)⟩
          | false =>
            rw [if_neg (by decide), Bool.true_and] at hobj
            by_cases hM0 : M = 0
            · have hkn : t.kids = [] := List.eq_nil_of_length_eq_zero (by rw [← HM.out]; exact hM0)
              have HR : Hid (okL d ts = okL d (ts.drop (k + 1))) := by
                show _ = _
                rw [HST2.out, hobj, decide_eq_true hM0, hkn, okL]; rfl
              have hM00 : ¬ 0 < M := by omega
              clear hobj hcv hM0 hkn
              go_wp2_with (first
                | (go_at_call 110; refine (HC1.out _).mono ?_; rintro e w' ⟨rfl, rfl⟩)
                | (go_at_call 96; refine (HC2.out _).mono ?_; rintro e w' ⟨rfl, rfl⟩))
              go_roundw
              case rel => exact ⟨k + 1, by omega, by go_num, hbel.trans ((alloc_below _ _).mono hsz), by show _ = _; rw [HR.out]⟩
              case measure => simp [intOf]; omega
            · have HR : Hid (okL d ts = false) := by
                show _ = _
                rw [HST2.out, hobj, decide_eq_false hM0]; rfl
              have hM00 : 0 < M := by omega
              clear hobj hcv hM0
              go_wp2_with (first
                | (go_at_call 110; refine (HC1.out _).mono ?_; rintro e w' ⟨rfl, rfl⟩)
                | (go_at_call 96; refine (HC2.out _).mono ?_; rintro e w' ⟨rfl, rfl⟩))
              go_ret
              exact ⟨ret_bool HR.out.symm, hbel.trans ((alloc_below _ _).mono hsz)⟩
      · have HR : Hid (okL d ts = false) := by
          have := HST.out
          rw [decide_eq_false hd8, Bool.false_and, Bool.false_and, Bool.false_and] at this
          exact this
        clear HST HOBJ
        go_wp2_with fail
        go_ret
        exact ⟨ret_bool HR.out.symm, hbel.trans ((alloc_below _ _).mono hsz)⟩
    · have hke : k = ts.length := by omega
      have HOK : Hid (okL d ts = true) := by
        show _ = _
        rw [hok.out, hke, List.drop_length, okL]
      clear hok
      subst hke
      go_wp2_with fail
      go_ret
      exact ⟨ret_bool HOK.out.symm, hbel⟩

theorem right_any : ∀ (n : Nat) (ts : List T) (v : Value) (d : Int) (w : World), depL ts < n → 1 ≤ d → d ≤ 9 → TL w w.heap.size v ts →
    Calls Tryd.prog 95 #[v, .int .i64 d] w fun e w' => e = .returned (.bool (okL d ts)) ∧ Below w.heap.size w w'
  | 0, ts, v, d, w, h, _, _, _ => absurd h (by omega)
  | n + 1, ts, v, d, w, h, h1, h2, hv => right_step ts (fun ts' v' d' w' h' => right_any n ts' v' d' w' (by omega)) v d w h1 h2 hv

set_option maxRecDepth 100000 in
theorem rright_any (ts : List T) (v : Value) (w : World) (hv : TL w w.heap.size v ts) :
    Calls Tryd.prog 81 #[v] w fun e w' => e = .returned (.bool (okL 1 ts)) ∧ Below w.heap.size w w' := by
  have H := Lib.hid (right_any (depL ts + 1) ts v 1 w (by omega) (by omega) (by omega) hv)
  clear hv
  go_enter Tryd.func81, Tryd.ntmps81
  go_wp2_with (go_at_call 95; refine H.out.mono ?_; rintro e w2 ⟨rfl, hb2⟩)
  go_ret
  exact ⟨rfl, hb2⟩

/-- Some bytes appended (they have just been laid into a block of their own, number B). -/
theorem wpList_appN {ops : Array Oper} {rest : List Oper} {o : Oper} {a : Act} {W : World} {Q : Exit → Act → World → Prop} (hgd : o.guard = none) (s x : Operand)
    (ho : o.op = .call { callee := .builtin .append, args := #[s, x], argTypes := #[42, 42] }) (w : World) (base : Nat) (v : Value) (l m : List UInt8) (B n : Nat) (cs : Array Value)
    (hs : a.eval s = v) (hn : m.length = n) (hx : a.eval x = .slice (some ⟨B, 0, none⟩) n n) (hW : Below w.heap.size w W) (hown : OB w base v l) (hB : W.heap[B]? = some (.cells cs 5 (0, 0))) (hcs : cs = (m.map bv).toArray)
    (hlen : l.length + m.length ≤ 100000000) (hbase : base ≤ w.heap.size)
    (h : ∀ v' w', OB w' base v' (l ++ m) → Below base w w' → wpList Tryd.prog ops Q rest (a.put o.dst v') w') : wpList Tryd.prog ops Q (o :: rest) a W := by
  subst hn
  refine wpList_appS hgd s x ho w base v l m _ _ hs hx hW hown (fun _ => ⟨B, 0, rfl, fun k hk => ?_⟩) hlen hbase h
  rw [Nat.zero_add, cell_of_row W B _ _ 5 (0, 0) hB, hcs]
  simp only [List.getElem?_toArray]
  exact map_bv_get m k hk

theorem lenF_small (n : Nat) (h : n < 128) : lenF n = [UInt8.ofNat n] := by unfold lenF; rw [if_pos h]
theorem lenF_mid (n : Nat) (h : ¬ n < 128) (h' : n < 256) : lenF n = [129, UInt8.ofNat n] := by unfold lenF; rw [if_neg h, if_pos (by omega)]
theorem lenF_big (n : Nat) (h : ¬ n < 256) : lenF n = [130, UInt8.ofNat (n / 256), UInt8.ofNat n] := by unfold lenF; rw [if_neg (by omega), if_neg (by omega)]
theorem tagF_two (N : Nat) (h : 255 < N) : tagF (N : Int) = [UInt8.ofNat (N / 256), UInt8.ofNat N] := by unfold tagF; rw [if_pos (by omega)]; simp [putL]
theorem tagF_one (N : Nat) (h : ¬ 255 < N) : tagF (N : Int) = [UInt8.ofNat N] := by unfold tagF; rw [if_neg (by omega)]; simp [putL]

set_option maxRecDepth 100000 in
set_option maxHeartbeats 3200000 in
theorem rhead_any (N n : Nat) (w : World) (h1 : N ≤ 65535) (h2 : n ≤ 4096) :
    Calls Tryd.prog 97 #[.int .i64 N, .int .i64 n] w fun e w' => ∃ v', e = .returned v' ∧ OB w' w.heap.size v' (tagF N ++ lenF n) ∧ Below w.heap.size w w' := by
  by_cases ht : 255 < N
  · by_cases hn2 : n < 256
    · by_cases hn : n < 128
      · have HL := Lib.hid (tagF_two N ht)
        have HN := Lib.hid (lenF_small n hn)
        go_enter Tryd.func97, Tryd.ntmps97
        go_wp2_with (first
          | (at_builtin; refine wpList_app1 rfl (.tmp 8) (.tmp 12) rfl w w.heap.size (.slice none 0 0) [] (UInt8.ofNat (N / 256)) _ w.heap.size rfl rfl (alloc_below _ _) (OB.nil _ _) (heap_alloc_new w _) (by simp; try omega) (by simp) (Nat.le_refl _) ?_; intro g2 cap2 w2 hob2 hb2)
          | (at_builtin; refine wpList_app1 rfl (.tmp 14) (.tmp 18) rfl w2 w.heap.size _ _ (UInt8.ofNat N) _ w2.heap.size rfl rfl (alloc_below _ _) hob2 (heap_alloc_new w2 _) (by simp; try omega) (by simp) hb2.size ?_; intro g3 cap3 w3 hob3 hb3)
          | (at_builtin; refine wpList_appN rfl (.tmp 38) (.tmp 41) rfl w3 w.heap.size _ _ [UInt8.ofNat n] w3.heap.size 1 _ rfl rfl rfl (alloc_below _ _) hob3 (heap_alloc_new w3 _) (by simp [bv]; try omega) (by simp) (Nat.le_trans hb2.size hb3.size) ?_; intro v4 w4 hob4 hb4))
        go_ret
        exact ⟨_, rfl, by rw [HL.out, HN.out]; simpa using hob4, (hb2.trans hb3).trans hb4⟩
      · have HL := Lib.hid (tagF_two N ht)
        have HN := Lib.hid (lenF_mid n hn hn2)
        go_enter Tryd.func97, Tryd.ntmps97
        go_wp2_with (first
          | (at_builtin; refine wpList_app1 rfl (.tmp 8) (.tmp 12) rfl w w.heap.size (.slice none 0 0) [] (UInt8.ofNat (N / 256)) _ w.heap.size rfl rfl (alloc_below _ _) (OB.nil _ _) (heap_alloc_new w _) (by simp; try omega) (by simp) (Nat.le_refl _) ?_; intro g2 cap2 w2 hob2 hb2)
          | (at_builtin; refine wpList_app1 rfl (.tmp 14) (.tmp 18) rfl w2 w.heap.size _ _ (UInt8.ofNat N) _ w2.heap.size rfl rfl (alloc_below _ _) hob2 (heap_alloc_new w2 _) (by simp; try omega) (by simp) hb2.size ?_; intro g3 cap3 w3 hob3 hb3)
          | (at_builtin; refine wpList_appN rfl (.tmp 33) (.tmp 36) rfl w3 w.heap.size _ _ [129, UInt8.ofNat n] w3.heap.size 2 _ rfl rfl rfl (alloc_below _ _) hob3 (heap_alloc_new w3 _) (by simp [bv]; try omega) (by simp) (Nat.le_trans hb2.size hb3.size) ?_; intro v4 w4 hob4 hb4))
        go_ret
        exact ⟨_, rfl, by rw [HL.out, HN.out]; simpa using hob4, (hb2.trans hb3).trans hb4⟩
    · have HL := Lib.hid (tagF_two N ht)
      have HN := Lib.hid (lenF_big n hn2)
      go_enter Tryd.func97, Tryd.ntmps97
      go_wp2_with (first
        | (at_builtin; refine wpList_app1 rfl (.tmp 8) (.tmp 12) rfl w w.heap.size (.slice none 0 0) [] (UInt8.ofNat (N / 256)) _ w.heap.size rfl rfl (alloc_below _ _) (OB.nil _ _) (heap_alloc_new w _) (by simp; try omega) (by simp) (Nat.le_refl _) ?_; intro g2 cap2 w2 hob2 hb2)
        | (at_builtin; refine wpList_app1 rfl (.tmp 14) (.tmp 18) rfl w2 w.heap.size _ _ (UInt8.ofNat N) _ w2.heap.size rfl rfl (alloc_below _ _) hob2 (heap_alloc_new w2 _) (by simp; try omega) (by simp) hb2.size ?_; intro g3 cap3 w3 hob3 hb3)
        | (at_builtin; refine wpList_appN rfl (.tmp 22) (.tmp 29) rfl w3 w.heap.size _ _ [130, UInt8.ofNat (n / 256), UInt8.ofNat n] w3.heap.size 3 _ rfl rfl rfl (alloc_below _ _) hob3 (heap_alloc_new w3 _) (by simp [bv]; try omega) (by simp) (Nat.le_trans hb2.size hb3.size) ?_; intro v4 w4 hob4 hb4))
      go_ret
      exact ⟨_, rfl, by rw [HL.out, HN.out]; simpa using hob4, (hb2.trans hb3).trans hb4⟩
  · by_cases hn2 : n < 256
    · by_cases hn : n < 128
      · have HL := Lib.hid (tagF_one N ht)
        have HN := Lib.hid (lenF_small n hn)
        go_enter Tryd.func97, Tryd.ntmps97
        go_wp2_with (first
          | (at_builtin; refine wpList_app1 rfl (.tmp 14) (.tmp 18) rfl w w.heap.size (.slice none 0 0) [] (UInt8.ofNat N) _ w.heap.size rfl rfl (alloc_below _ _) (OB.nil _ _) (heap_alloc_new w _) (by simp; try omega) (by simp) (Nat.le_refl _) ?_; intro g3 cap3 w3 hob3 hb3)
          | (at_builtin; refine wpList_appN rfl (.tmp 38) (.tmp 41) rfl w3 w.heap.size _ _ [UInt8.ofNat n] w3.heap.size 1 _ rfl rfl rfl (alloc_below _ _) hob3 (heap_alloc_new w3 _) (by simp [bv]; try omega) (by simp) hb3.size ?_; intro v4 w4 hob4 hb4))
        go_ret
        exact ⟨_, rfl, by rw [HL.out, HN.out]; simpa using hob4, hb3.trans hb4⟩
      · have HL := Lib.hid (tagF_one N ht)
        have HN := Lib.hid (lenF_mid n hn hn2)
        go_enter Tryd.func97, Tryd.ntmps97
        go_wp2_with (first
          | (at_builtin; refine wpList_app1 rfl (.tmp 14) (.tmp 18) rfl w w.heap.size (.slice none 0 0) [] (UInt8.ofNat N) _ w.heap.size rfl rfl (alloc_below _ _) (OB.nil _ _) (heap_alloc_new w _) (by simp; try omega) (by simp) (Nat.le_refl _) ?_; intro g3 cap3 w3 hob3 hb3)
          | (at_builtin; refine wpList_appN rfl (.tmp 33) (.tmp 36) rfl w3 w.heap.size _ _ [129, UInt8.ofNat n] w3.heap.size 2 _ rfl rfl rfl (alloc_below _ _) hob3 (heap_alloc_new w3 _) (by simp [bv]; try omega) (by simp) hb3.size ?_; intro v4 w4 hob4 hb4))
        go_ret
        exact ⟨_, rfl, by rw [HL.out, HN.out]; simpa using hob4, hb3.trans hb4⟩
    · have HL := Lib.hid (tagF_one N ht)
      have HN := Lib.hid (lenF_big n hn2)
      go_enter Tryd.func97, Tryd.ntmps97
      go_wp2_with (first
        | (at_builtin; refine wpList_app1 rfl (.tmp 14) (.tmp 18) rfl w w.heap.size (.slice none 0 0) [] (UInt8.ofNat N) _ w.heap.size rfl rfl (alloc_below _ _) (OB.nil _ _) (heap_alloc_new w _) (by simp; try omega) (by simp) (Nat.le_refl _) ?_; intro g3 cap3 w3 hob3 hb3)
        | (at_builtin; refine wpList_appN rfl (.tmp 22) (.tmp 29) rfl w3 w.heap.size _ _ [130, UInt8.ofNat (n / 256), UInt8.ofNat n] w3.heap.size 3 _ rfl rfl rfl (alloc_below _ _) hob3 (heap_alloc_new w3 _) (by simp [bv]; try omega) (by simp) hb3.size ?_; intro v4 w4 hob4 hb4))
      go_ret
      exact ⟨_, rfl, by rw [HL.out, HN.out]; simpa using hob4, hb3.trans hb4⟩

def allM (ts : List T) : List UInt8 := if (encL ts).length ≤ 4096 then encL ts else []
def allB (ts : List T) : Bool := decide ((encL ts).length ≤ 4096)
theorem allM_t {ts : List T} (h : (encL ts).length ≤ 4096) : allM ts = encL ts := if_pos h
theorem allM_f {ts : List T} (h : 4096 < (encL ts).length) : allM ts = [] := if_neg (by omega)
theorem allB_t {ts : List T} (h : (encL ts).length ≤ 4096) : allB ts = true := decide_eq_true h
theorem allB_f {ts : List T} (h : 4096 < (encL ts).length) : allB ts = false := decide_eq_false (by omega)
theorem ret_pair {v : Value} {a b : Bool} (h : a = b) : Ending.returned (.tuple #[v, .bool a]) = .returned (.tuple #[v, .bool b]) := by rw [h]
theorem SL.rd {w : World} {B : Nat} {A : Option Addr} {n c : Nat} {m : List UInt8} (h : SL w B (.slice A n c) m) : n = m.length ∧ (0 < m.length → ∃ b o, A = some ⟨b, o, none⟩ ∧ ∀ k, k < m.length → w.cell? ⟨b, o + k, none⟩ = some (.int .u8 ((m.getD k 0).toNat : Int))) := by
  obtain ⟨A', c', e, _, _, h3⟩ := h
  injection e with e1 e2 e3
  subst e1 e2
  refine ⟨rfl, fun hp => ?_⟩
  obtain ⟨b, o, hA, _, hc⟩ := h3 hp
  exact ⟨b, o, hA, hc⟩

def AllC (ts : List T) : Prop := ∀ (v : Value) (w : World), TL w w.heap.size v ts →
  Calls Tryd.prog 82 #[v] w fun e w' => ∃ v', e = .returned (.tuple #[v', .bool (allB ts)]) ∧ FS w' w.heap.size v' (allM ts) ∧ Below w.heap.size w w'

/-- Some bytes appended to what the call owns; what else is in memory is kept. -/
theorem wpList_appG {ops : Array Oper} {rest : List Oper} {o : Oper} {a : Act} {W : World} {Q : Exit → Act → World → Prop} (hgd : o.guard = none) (s x : Operand)
    (ho : o.op = .call { callee := .builtin .append, args := #[s, x], argTypes := #[42, 42] }) (base : Nat) (v : Value) (l m : List UInt8) (A : Option Addr) (c : Nat)
    (hs : a.eval s = v) (hx : a.eval x = .slice A m.length c) (hown : OB W base v l) (h0 : 0 < m.length)
    (hm : 0 < m.length → ∃ b o, A = some ⟨b, o, none⟩ ∧ ∀ k, k < m.length → W.cell? ⟨b, o + k, none⟩ = some (.int .u8 ((m.getD k 0).toNat : Int)))
    (hlen : l.length + m.length ≤ 100000000) (hbase : base ≤ W.heap.size)
    (h : ∀ v' w', OB w' base v' (l ++ m) → W.grownBy w' v.ownBlock → wpList Tryd.prog ops Q rest (a.put o.dst v') w') : wpList Tryd.prog ops Q (o :: rest) a W := by
  obtain ⟨i0, hi0, hz0, hz1, hz2⟩ := info_parts info5
  obtain ⟨b, of, rfl, hc⟩ := hm h0
  refine wpList_append_lies W hgd s x 42 ho base 5 i0 (.int .u8 0) 1 1 Tryd.underlying42 hi0 hz0 hz1 hz2 rfl (by omega) v l.length (l.map bv) hs hown ⟨b, of, none⟩ m.length c (m.map bv) hx (by simp)
    (fun j u hu => by
      have hj : j < m.length := by have := (List.getElem?_eq_some_iff.1 hu).1; simpa using this
      rw [addr_add, hc j hj, ← hu, map_bv_get m j hj]) (map_bv_one m) h0 (by simp only [maxLen]; omega) (by omega) hbase W.heap.size rfl fun g cap w' k1 k2 k3 k4 => ?_
  refine h _ w' ?_ k2
  unfold OB
  rw [List.length_append, List.map_append]
  exact k1
theorem OB.block_ge {w : World} {base : Nat} {v : Value} {l : List UInt8} (h : OB w base v l) : ∀ k, v.ownBlock = some k → base ≤ k ∧ k < w.heap.size := fun k hk => h.lt k hk

set_option maxRecDepth 100000 in
set_option maxHeartbeats 3200000 in
theorem all_step (ts : List T) (d : Int) (ih : ∀ (ts' : List T), depL ts' < depL ts → okL (d + 1) ts' = true → AllC ts')
    (hok : okL d ts = true) : AllC ts := by
  intro v w hv
  have IH := Lib.hid ih
  have HOK := Lib.hid hok
  clear ih hok
  obtain ⟨A, c, rfl, h1, h2, h3⟩ := hv
  unfold maxLen at h2
  go_enter Tryd.func82, Tryd.ntmps82
  go_wp2_with fail
  go_loopw [4, 5] (fun n i wr => ∃ k : Nat, k ≤ ts.length ∧ i = .int .i64 k ∧ (encL (ts.take k)).length ≤ 4096 ∧ OB wr w.heap.size n (encL (ts.take k)) ∧ Below w.heap.size w wr) (fun _ i _ => ts.length - (intOf i).toNat)
  case atStart => exact ⟨0, Nat.zero_le _, rfl, by simp [encL], by simpa [encL] using OB.nil w w.heap.size, Below.refl _ _⟩
  case round =>
    obtain ⟨k, hk, rfl, hln, hob, hbel⟩ := hrel
    by_cases hkl : k < ts.length
    · obtain ⟨b, o, rfl, hb, hts⟩ := h3.out (by omega)
      have hta := TsAt.get hts hkl
      have hdp := depL_get ts k hkl
      have hok1 := okL_get d ts k hkl HOK.out
      have hst := encL_take ts k hkl
      have hle := encL_take_le ts (k + 1)
      obtain ⟨t, ht⟩ : ∃ t, t = ts[k] := ⟨_, rfl⟩
      rw [← ht] at hta hst hdp hok1
      rw [← dep_kidsT] at hdp
      obtain ⟨t1, t2, hkok⟩ := ok_obj hok1
      have hih := IH.out t.kids (by omega) hkok
      unfold AllC at hih
      have hobj : objOk t = true := by
        rw [ok_partsT] at hok1
        simp only [Bool.and_eq_true] at hok1
        exact hok1.1.2
      have hta' := TAt.keep (Nat.le_refl _) (fun p hp => hbel.cell hp) t b _ hb hta
      obtain ⟨A1, c1, A2, c2, g1, g2, g3, hv1, hu1⟩ := hta'.cells
      have hsz := hbel.size
      have hen := enc_parts t
      obtain ⟨C, hC⟩ : ∃ C, C = t.val ++ encL t.kids := ⟨_, rfl⟩
      rw [← hC] at hen
      obtain ⟨tag, htag⟩ : ∃ x, x = t.tag := ⟨_, rfl⟩
      rw [← htag] at t1 t2 g1 hen
      obtain ⟨N, rfl⟩ := Int.eq_ofNat_of_zero_le (show 0 ≤ tag by omega)
      obtain ⟨M, hM⟩ : ∃ x, x = t.kids.length := ⟨_, rfl⟩
      rw [← hM] at g3 hu1
      obtain ⟨P, hP⟩ : ∃ P, P = encL (ts.take k) := ⟨_, rfl⟩
      rw [← hP] at hst hob hln
      have hlen : P.length + ((tagF (N : Int)).length + (lenF C.length).length + C.length) ≤ (encL ts).length ∧ (encL (ts.take (k + 1))).length = P.length + ((tagF (N : Int)).length + (lenF C.length).length + C.length) := by
        rw [hst, hen] at hle ⊢
        simp only [List.length_append] at hle ⊢
        omega
      have hst2 : encL (ts.take (k + 1)) = P ++ (tagF (N : Int) ++ lenF C.length) ++ C := by rw [hst, hen]; simp
      have HST := Lib.hid hst2
      have HLEN := Lib.hid hlen
      have hval := hv1
      have HV := Lib.hid (hv1.more hsz)
      have HU := Lib.hid (hu1.more hsz)
      have HIH := Lib.hid hih
      have HO := Lib.hid hob
      have hv1' := hv1
      obtain ⟨V, hV⟩ : ∃ x, x = t.val.length := ⟨_, rfl⟩
      rw [← hV] at g2
      have HVV := Lib.hid hV
      have HC := Lib.hid hC
      have hl1 := tagF_length (N : Int)
      have hl2 := lenF_length C.length
      have HL1 := Lib.hid hl1
      have HL2 := Lib.hid hl2
      obtain ⟨Cb, hCb⟩ : ∃ x, x = consB (N : Int) := ⟨_, rfl⟩
      have hc2 := fun W => rcons_any (N : Int) W
      simp only [← hCb] at hc2
      have HC2 := Lib.hid hc2
      have hobj2 : (if Cb then decide (t.val.length = 0) else validB (N : Int) && decide (t.kids.length = 0)) = true := by
        rw [hCb, htag]; exact hobj
      have HOBJ := Lib.hid hobj2
      obtain ⟨Av, cv, ev, hv2, hv3, _⟩ := id hob.sl
      subst ev
      have hap : 0 < t.val.length → (Value.slice A1 t.val.length c1).ownBlock ≠ (Value.slice Av P.length cv).ownBlock := fun hp e => by
        obtain ⟨A9, c9, e9, _, _, hr9⟩ := hval
        injection e9 with e91 e92 e93
        obtain ⟨b9, o9, hA9, hb9, _⟩ := hr9 hp
        rw [e91, hA9] at e
        have := (hob.block_ge b9 (by rw [← e]; rfl)).1
        omega
      rw [← hV] at hap
      have HAP := Lib.hid hap
      clear hap hval hts hta hta' ht hdp hok1 hst hle hkok hih hobj hv1 hu1 hen hC htag hM hP hlen hst2 hob hv1' hV hl1 hl2 hCb hc2 hobj2
      cases Cb with
      | false =>
        have hkn : t.kids = [] := by
          have := HOBJ.out
          rw [if_neg (by decide)] at this
          simp only [Bool.and_eq_true, decide_eq_true_eq] at this
          exact List.eq_nil_of_length_eq_zero this.2
        have hCv : C = t.val := by rw [HC.out, hkn]; simp [encL]
        have hsl6 := HV.out
        rw [← hCv] at hsl6
        obtain ⟨A6, hA6⟩ : ∃ x, x = A1 := ⟨_, rfl⟩
        obtain ⟨c6, hc6⟩ : ∃ x, x = c1 := ⟨_, rfl⟩
        have hVC : V = C.length := by rw [HVV.out, hCv]
        subst hVC
        subst hA6 hc6
        have hob6 := HO.out
        have hap6 : 0 < C.length → (Value.slice A6 C.length c6).ownBlock ≠ (Value.slice Av P.length cv).ownBlock := HAP.out
        clear hCv hkn
        by_cases hbig : 4096 < C.length
        · have HF : Hid (4096 < (encL ts).length) := by show _ < _; have := HLEN.out.1; omega
          go_wp2_with (go_at_call 96; refine (HC2.out _).mono ?_; rintro e w' ⟨rfl, rfl⟩)
          go_ret2
          refine ⟨_, ret_pair (allB_f HF.out).symm, ?_, hbel⟩
          rw [allM_f HF.out]
          exact FS.nil _ _ _ _ (Nat.zero_le _)
        · have hbig2 : C.length ≤ 4096 := by omega
          clear hbig
          go_wp2_with (go_at_call 96; refine (HC2.out _).mono ?_; rintro e w' ⟨rfl, rfl⟩)
          refine (rhead_any N C.length wr (by omega) (by omega)).mono ?_
          rintro e w4 ⟨v4, rfl, hv4, hb4⟩
          have s4 := hb4.size
          obtain ⟨Hd, hHd⟩ : ∃ x, x = tagF (N : Int) ++ lenF C.length := ⟨_, rfl⟩
          rw [← hHd] at hv4
          have HHD := Lib.hid hHd
          have hh1 : 0 < Hd.length := by have := lenF_pos C.length; rw [hHd]; simp; omega
          have hh2 : Hd.length ≤ 5 := by have := HL1.out; have := HL2.out; rw [hHd]; simp; omega
          clear hHd
          obtain ⟨A4, c4, e4, k4, k5, _⟩ := id hv4.sl
          subst e4
          have sb := hbel.size
          have hob4 := hob6.later hb4
          go_wp2_with (first
            | (at_builtin; refine wpList_appG rfl (.tmp 41) (.tmp 49) rfl w.heap.size _ P Hd A4 c4 rfl rfl hob4 hh1 (SL.rd hv4.sl).2 (by omega) (by omega) ?_; intro v5 w5 hv5 hg5; have hsl5 := (hsl6.on hb4).grown hap6 hg5; have b4 : Below w.heap.size w w4 := hbel.trans (hb4.mono sb); have b5 : Below w.heap.size w w5 := b4.grown hg5 b4.size (fun k hk => (hob4.lt k hk).1); have s5 := b5.size; clear hg5 hap6)
            | (at_builtin; refine wpList_appS rfl (.tmp 51) (.tmp 52) rfl w5 w.heap.size _ (P ++ Hd) C A6 c6 rfl rfl (Below.refl _ _) hv5 (SL.rd hsl5).2 (by simp; omega) (by omega) ?_; intro v7 w7 hv7 hb7; have b7 : Below w.heap.size w w7 := b5.trans hb7; rw [HHD.out, ← HST.out] at hv7; obtain ⟨A7, c7, e7, k8, k9, _⟩ := id hv7.sl; subst e7; obtain ⟨Z, hZ⟩ : ∃ Z, Z = (encL (ts.take (k + 1))).length := ⟨_, rfl⟩; have HV7 := Lib.hid hv7; rw [← hZ]; have HZ := Lib.hid hZ; clear hZ hv7))
          · have HF : Hid (4096 < (encL ts).length) := by show _ < _; have := encL_take_le ts (k + 1); have := HZ.out; omega
            go_ret2
            refine ⟨_, ret_pair (allB_f HF.out).symm, ?_, b7⟩
            rw [allM_f HF.out]
            exact FS.nil _ _ _ _ (Nat.zero_le _)
          · go_roundw
            case rel => exact ⟨k + 1, by omega, by go_num, by rw [← HZ.out]; omega, by rw [HZ.out]; exact HV7.out, b7⟩
            case measure => simp [intOf]; omega
      | true =>
        have hvn : t.val = [] := by
          have := HOBJ.out
          rw [if_pos rfl] at this
          exact List.eq_nil_of_length_eq_zero (by simpa using this)
        have hCv : C = encL t.kids := by rw [HC.out, hvn, List.nil_append]
        by_cases hkl2 : (encL t.kids).length ≤ 4096
        · have hih := HIH.out
          rw [allB_t hkl2, allM_t hkl2, ← hCv] at hih
          have HI := Lib.hid hih
          have hbig2 : C.length ≤ 4096 := by rw [hCv]; exact hkl2
          clear hih hvn hkl2 hCv
          go_wp2_with (first
            | (go_at_call 96; refine (HC2.out _).mono ?_; rintro e w' ⟨rfl, rfl⟩)
            | (go_at_call 82; refine (HI.out _ _ HU.out).mono ?_; rintro e w6 ⟨v6, rfl, hv6, hb6⟩; have hv6' := hv6.1; obtain ⟨A6, c6, rfl, _⟩ := hv6'; have q6 := (hb6.cell (p := ⟨b, o + k * 3, none⟩) (show b < wr.heap.size by omega)).trans g1))
          have hob6 := HO.out.later hb6
          have hsl6 := hv6.1
          have hbel6 : Below w.heap.size w w6 := hbel.trans (hb6.mono hsz)
          have hap6 : 0 < C.length → (Value.slice A6 C.length c6).ownBlock ≠ (Value.slice Av P.length cv).ownBlock := fun hp e => by
            obtain ⟨b6, q1, q2⟩ := hv6.2.out hp
            have := (HO.out.block_ge b6 (by rw [← e]; exact q1)).2
            omega
          refine (rhead_any N C.length w6 (by omega) (by omega)).mono ?_
          rintro e w4 ⟨v4, rfl, hv4, hb4⟩
          have s4 := hb4.size
          obtain ⟨Hd, hHd⟩ : ∃ x, x = tagF (N : Int) ++ lenF C.length := ⟨_, rfl⟩
          rw [← hHd] at hv4
          have HHD := Lib.hid hHd
          have hh1 : 0 < Hd.length := by have := lenF_pos C.length; rw [hHd]; simp; omega
          have hh2 : Hd.length ≤ 5 := by have := HL1.out; have := HL2.out; rw [hHd]; simp; omega
          clear hHd
          obtain ⟨A4, c4, e4, k4, k5, _⟩ := id hv4.sl
          subst e4
          have sb := hbel6.size
          have hob4 := hob6.later hb4
          go_wp2_with (first
            | (at_builtin; refine wpList_appG rfl (.tmp 41) (.tmp 49) rfl w.heap.size _ P Hd A4 c4 rfl rfl hob4 hh1 (SL.rd hv4.sl).2 (by omega) (by omega) ?_; intro v5 w5 hv5 hg5; have hsl5 := (hsl6.on hb4).grown hap6 hg5; have b4 : Below w.heap.size w w4 := hbel6.trans (hb4.mono sb); have b5 : Below w.heap.size w w5 := b4.grown hg5 b4.size (fun k hk => (hob4.lt k hk).1); have s5 := b5.size; clear hg5 hap6)
            | (at_builtin; refine wpList_appS rfl (.tmp 51) (.tmp 52) rfl w5 w.heap.size _ (P ++ Hd) C A6 c6 rfl rfl (Below.refl _ _) hv5 (SL.rd hsl5).2 (by simp; omega) (by omega) ?_; intro v7 w7 hv7 hb7; have b7 : Below w.heap.size w w7 := b5.trans hb7; rw [HHD.out, ← HST.out] at hv7; obtain ⟨A7, c7, e7, k8, k9, _⟩ := id hv7.sl; subst e7; obtain ⟨Z, hZ⟩ : ∃ Z, Z = (encL (ts.take (k + 1))).length := ⟨_, rfl⟩; have HV7 := Lib.hid hv7; rw [← hZ]; have HZ := Lib.hid hZ; clear hZ hv7))
          · have HF : Hid (4096 < (encL ts).length) := by show _ < _; have := encL_take_le ts (k + 1); have := HZ.out; omega
            go_ret2
            refine ⟨_, ret_pair (allB_f HF.out).symm, ?_, b7⟩
            rw [allM_f HF.out]
            exact FS.nil _ _ _ _ (Nat.zero_le _)
          · go_roundw
            case rel => exact ⟨k + 1, by omega, by go_num, by rw [← HZ.out]; omega, by rw [HZ.out]; exact HV7.out, b7⟩
            case measure => simp [intOf]; omega
        · have HF : Hid (4096 < (encL ts).length) := by show _ < _; have := HLEN.out.1; rw [hCv] at this; omega
          have hih := HIH.out
          rw [allB_f (by omega)] at hih
          have HI := Lib.hid hih
          clear hih hvn hkl2 hCv
          go_wp2_with (first
            | (go_at_call 96; refine (HC2.out _).mono ?_; rintro e w' ⟨rfl, rfl⟩)
            | (go_at_call 82; refine (HI.out _ _ HU.out).mono ?_; rintro e w6 ⟨v6, rfl, hv6, hb6⟩))
          go_ret2
          refine ⟨_, ret_pair (allB_f HF.out).symm, ?_, hbel.trans (hb6.mono hsz)⟩
          rw [allM_f HF.out]
          exact FS.nil _ _ _ _ (Nat.zero_le _)
    · have hke : k = ts.length := by omega
      rw [hke, List.take_length] at hob hln
      have HF := Lib.hid hln
      obtain ⟨Av, cv, ev, hv2, hv3, _⟩ := id hob.sl
      subst ev
      go_wp2_with fail
      go_ret2
      refine ⟨_, ret_pair (allB_t HF.out).symm, ?_, hbel⟩
      rw [allM_t HF.out]
      exact hob.fs

theorem all_any : ∀ (n : Nat) (ts : List T) (d : Int), depL ts < n → okL d ts = true → AllC ts
  | 0, ts, d, h, _ => absurd h (by omega)
  | n + 1, ts, d, h, hok => all_step ts d (fun ts' h' hk => all_any n ts' (d + 1) (by omega) hk) hok

set_option maxRecDepth 100000 in
theorem rencode_any (ts : List T) (v : Value) (w : World) (hv : TL w w.heap.size v ts) :
    Calls Tryd.prog 56 #[v] w fun e w' => ∃ v', e = .returned (.tuple #[v', .int .i64 (encE ts)]) ∧ SL w' w'.heap.size v' (encM ts) ∧ Below w.heap.size w w' := by
  have HV := Lib.hid hv
  have hc := rright_any ts v w hv
  obtain ⟨A, c, rfl, h1, h2, h3⟩ := hv
  cases hok : okL 1 ts with
  | false =>
    rw [hok] at hc
    have HC := Lib.hid hc
    have HM := Lib.hid (show encM ts = [] by unfold encM; rw [hok]; rfl)
    have HE := Lib.hid (show encE ts = 1 by unfold encE; rw [hok]; rfl)
    clear hc hok
    go_enter Tryd.func56, Tryd.ntmps56
    rw [HM.out, HE.out]
    go_wp2_with (go_at_call 81; refine HC.out.mono ?_; rintro e w2 ⟨rfl, hb2⟩)
    go_ret2
    exact ⟨_, rfl, SL.nil _ _ _ _ (Nat.zero_le _), hb2⟩
  | true =>
    rw [hok] at hc
    have HC := Lib.hid hc
    have hal := all_any (depL ts + 1) ts 1 (by omega) hok
    unfold AllC at hal
    by_cases hl : 4096 < (encL ts).length
    · have HM := Lib.hid (show encM ts = [] by unfold encM; rw [if_pos hok, if_pos hl])
      have HE := Lib.hid (show encE ts = 3 by unfold encE; rw [if_pos hok, if_pos hl])
      rw [allB_f hl, allM_f hl] at hal
      have HA := Lib.hid hal
      clear hc hok hal hl
      go_enter Tryd.func56, Tryd.ntmps56
      rw [HM.out, HE.out]
      go_wp2_with (first
        | (go_at_call 81; refine HC.out.mono ?_; rintro e w2 ⟨rfl, hb2⟩)
        | (go_at_call 82; refine (HA.out _ _ (HV.out.on hb2)).mono ?_; rintro e w3 ⟨v3, rfl, hv3, hb3⟩))
      go_ret2
      exact ⟨_, rfl, SL.nil _ _ _ _ (Nat.zero_le _), hb2.trans (hb3.mono hb2.size)⟩
    · have HM := Lib.hid (show encM ts = encL ts by unfold encM; rw [if_pos hok, if_neg hl])
      have HE := Lib.hid (show encE ts = 0 by unfold encE; rw [if_pos hok, if_neg hl])
      rw [allB_t (by omega), allM_t (by omega)] at hal
      have HA := Lib.hid hal
      clear hc hok hal hl
      go_enter Tryd.func56, Tryd.ntmps56
      rw [HM.out, HE.out]
      go_wp2_with (first
        | (go_at_call 81; refine HC.out.mono ?_; rintro e w2 ⟨rfl, hb2⟩)
        | (go_at_call 82; refine (HA.out _ _ (HV.out.on hb2)).mono ?_; rintro e w3 ⟨v3, rfl, hv3, hb3⟩))
      go_ret2
      exact ⟨_, rfl, hv3.1, hb2.trans (hb3.mono hb2.size)⟩

end Go.Proofs.YtjkbfogjfgnhiaaDoor
