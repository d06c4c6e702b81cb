/-
  The reference: all and Encode.
-/
import Derived.Test.YtahnmnbjgbfeaaaRefb
namespace Go.Proofs.Ytahnmnbjgbfeaaa
set_option linter.unusedVariables false
set_option linter.unusedSimpArgs false
open Go.RowKit

def allM (ts : List T) : List UInt8 := if (encL ts).length ≤ 4096 then encL ts else []
def allB (ts : List T) : Bool := decide ((encL ts).length ≤ 4096)
theorem allM_t {ts : List T} (h : (encL ts).length ≤ 4096) : allM ts = encL ts := if_pos h
theorem allM_f {ts : List T} (h : 4096 < (encL ts).length) : allM ts = [] := if_neg (by omega)
theorem allB_t {ts : List T} (h : (encL ts).length ≤ 4096) : allB ts = true := decide_eq_true h
theorem allB_f {ts : List T} (h : 4096 < (encL ts).length) : allB ts = false := decide_eq_false (by omega)
theorem ret_pair {v : Value} {a b : Bool} (h : a = b) : Ending.returned (.tuple #[v, .bool a]) = .returned (.tuple #[v, .bool b]) := by rw [h]
theorem SL.rd {w : World} {B : Nat} {A : Option Addr} {n c : Nat} {m : List UInt8} (h : SL w B (.slice A n c) m) : n = m.length ∧ (0 < m.length → ∃ b o, A = some ⟨b, o, none⟩ ∧ ∀ k, k < m.length → w.cell? ⟨b, o + k, none⟩ = some (.int .u8 ((m.getD k 0).toNat : Int))) := by
  obtain ⟨A', c', e, _, _, h3⟩ := h
  injection e with e1 e2 e3
  subst e1 e2
  refine ⟨rfl, fun hp => ?_⟩
  obtain ⟨b, o, hA, _, hc⟩ := h3 hp
  exact ⟨b, o, hA, hc⟩

def AllC (ts : List T) : Prop := ∀ (v : Value) (w : World), TL w w.heap.size v ts →
  Calls Try.prog 73 #[v] w fun e w' => ∃ v', e = .returned (.tuple #[v', .bool (allB ts)]) ∧ FS w' w.heap.size v' (allM ts) ∧ Below w.heap.size w w'

/-- Some bytes appended to what the call owns; what else is in memory is kept. -/
theorem wpList_appG {ops : Array Oper} {rest : List Oper} {o : Oper} {a : Act} {W : World} {Q : Exit → Act → World → Prop} (hgd : o.guard = none) (s x : Operand)
    (ho : o.op = .call { callee := .builtin .append, args := #[s, x], argTypes := #[22, 22] }) (base : Nat) (v : Value) (l m : List UInt8) (A : Option Addr) (c : Nat)
    (hs : a.eval s = v) (hx : a.eval x = .slice A m.length c) (hown : OB W base v l) (h0 : 0 < m.length)
    (hm : 0 < m.length → ∃ b o, A = some ⟨b, o, none⟩ ∧ ∀ k, k < m.length → W.cell? ⟨b, o + k, none⟩ = some (.int .u8 ((m.getD k 0).toNat : Int)))
    (hlen : l.length + m.length ≤ 100000000) (hbase : base ≤ W.heap.size)
    (h : ∀ v' w', OB w' base v' (l ++ m) → W.grownBy w' v.ownBlock → wpList Try.prog ops Q rest (a.put o.dst v') w') : wpList Try.prog ops Q (o :: rest) a W := by
  obtain ⟨i0, hi0, hz0, hz1, hz2⟩ := info_parts info5
  obtain ⟨b, of, rfl, hc⟩ := hm h0
  refine wpList_append_lies W hgd s x 22 ho base 5 i0 (.int .u8 0) 1 1 Try.underlying22 hi0 hz0 hz1 hz2 rfl (by omega) v l.length (l.map bv) hs hown ⟨b, of, none⟩ m.length c (m.map bv) hx (by simp)
    (fun j u hu => by
      have hj : j < m.length := by have := (List.getElem?_eq_some_iff.1 hu).1; simpa using this
      rw [addr_add, hc j hj, ← hu, map_bv_get m j hj]) (map_bv_one m) h0 (by simp only [maxLen]; omega) (by omega) hbase W.heap.size rfl fun g cap w' k1 k2 k3 k4 => ?_
  refine h _ w' ?_ k2
  unfold OB
  rw [List.length_append, List.map_append]
  exact k1
theorem OB.block_ge {w : World} {base : Nat} {v : Value} {l : List UInt8} (h : OB w base v l) : ∀ k, v.ownBlock = some k → base ≤ k ∧ k < w.heap.size := fun k hk => h.lt k hk

set_option maxRecDepth 100000 in
set_option maxHeartbeats 3200000 in
theorem all_step (ts : List T) (d : Int) (ih : ∀ (ts' : List T), depL ts' < depL ts → okL (d + 1) ts' = true → AllC ts')
    (hok : okL d ts = true) : AllC ts := by
  intro v w hv
  have IH := Lib.hid ih
  have HOK := Lib.hid hok
  clear ih hok
  obtain ⟨A, c, rfl, h1, h2, h3⟩ := hv
  unfold maxLen at h2
  go_enter Try.func73, Try.ntmps73
  go_wp2_with fail
  go_loopw [4, 5] (fun n i wr => ∃ k : Nat, k ≤ ts.length ∧ i = .int .i64 k ∧ (encL (ts.take k)).length ≤ 4096 ∧ OB wr w.heap.size n (encL (ts.take k)) ∧ Below w.heap.size w wr) (fun _ i _ => ts.length - (intOf i).toNat)
  case atStart => exact ⟨0, Nat.zero_le _, rfl, by simp [encL], by simpa [encL] using OB.nil w w.heap.size, Below.refl _ _⟩
  case round =>
    obtain ⟨k, hk, rfl, hln, hob, hbel⟩ := hrel
    by_cases hkl : k < ts.length
    · obtain ⟨b, o, rfl, hb, hts⟩ := h3.out (by omega)
      have hta := TsAt.get hts hkl
      have hdp := depL_get ts k hkl
      have hok1 := okL_get d ts k hkl HOK.out
      have hst := encL_take ts k hkl
      have hle := encL_take_le ts (k + 1)
      obtain ⟨t, ht⟩ : ∃ t, t = ts[k] := ⟨_, rfl⟩
      rw [← ht] at hta hst hdp hok1
      rw [← dep_kids] at hdp
      obtain ⟨t1, t2, hkok⟩ := ok_obj hok1
      have hih := IH.out t.kids (by omega) hkok
      unfold AllC at hih
      have hobj : objOk t = true := by
        rw [ok_parts] at hok1
        simp only [Bool.and_eq_true] at hok1
        exact hok1.1.2
      have hta' := TAt.keep (Nat.le_refl _) (fun p hp => hbel.cell hp) t b _ hb hta
      obtain ⟨A1, c1, A2, c2, g1, g2, g3, hv1, hu1⟩ := hta'.cells
      have hsz := hbel.size
      have hen := enc_parts t
      obtain ⟨C, hC⟩ : ∃ C, C = t.val ++ encL t.kids := ⟨_, rfl⟩
      rw [← hC] at hen
      obtain ⟨tag, htag⟩ : ∃ x, x = t.tag := ⟨_, rfl⟩
      rw [← htag] at t1 t2 g1 hen
      obtain ⟨N, rfl⟩ := Int.eq_ofNat_of_zero_le (show 0 ≤ tag by omega)
      obtain ⟨M, hM⟩ : ∃ x, x = t.kids.length := ⟨_, rfl⟩
      rw [← hM] at g3 hu1
      obtain ⟨P, hP⟩ : ∃ P, P = encL (ts.take k) := ⟨_, rfl⟩
      rw [← hP] at hst hob hln
      have hlen : P.length + ((tagF (N : Int)).length + (lenF C.length).length + C.length) ≤ (encL ts).length ∧ (encL (ts.take (k + 1))).length = P.length + ((tagF (N : Int)).length + (lenF C.length).length + C.length) := by
        rw [hst, hen] at hle ⊢
        simp only [List.length_append] at hle ⊢
        omega
      have hst2 : encL (ts.take (k + 1)) = P ++ (tagF (N : Int) ++ lenF C.length) ++ C := by rw [hst, hen]; simp
      have HST := Lib.hid hst2
      have HLEN := Lib.hid hlen
      have hval := hv1
      have HV := Lib.hid (hv1.more hsz)
      have HU := Lib.hid (hu1.more hsz)
      have HIH := Lib.hid hih
      have HO := Lib.hid hob
      have hv1' := hv1
      obtain ⟨V, hV⟩ : ∃ x, x = t.val.length := ⟨_, rfl⟩
      rw [← hV] at g2
      have HVV := Lib.hid hV
      have HC := Lib.hid hC
      have hl1 := tagF_length (N : Int)
      have hl2 := lenF_length C.length
      have HL1 := Lib.hid hl1
      have HL2 := Lib.hid hl2
      obtain ⟨Cb, hCb⟩ : ∃ x, x = consB (N : Int) := ⟨_, rfl⟩
      have hc2 := fun W => rcons_any (N : Int) W
      simp only [← hCb] at hc2
      have HC2 := Lib.hid hc2
      have hobj2 : (if Cb then decide (t.val.length = 0) else validB (N : Int) && decide (t.kids.length = 0)) = true := by
        rw [hCb, htag]; exact hobj
      have HOBJ := Lib.hid hobj2
      obtain ⟨Av, cv, ev, hv2, hv3, _⟩ := id hob.sl
      subst ev
      have hap : 0 < t.val.length → (Value.slice A1 t.val.length c1).ownBlock ≠ (Value.slice Av P.length cv).ownBlock := fun hp e => by
        obtain ⟨A9, c9, e9, _, _, hr9⟩ := hval
        injection e9 with e91 e92 e93
        obtain ⟨b9, o9, hA9, hb9, _⟩ := hr9 hp
        rw [e91, hA9] at e
        have := (hob.block_ge b9 (by rw [← e]; rfl)).1
        omega
      rw [← hV] at hap
      have HAP := Lib.hid hap
      clear hap hval hts hta hta' ht hdp hok1 hst hle hkok hih hobj hv1 hu1 hen hC htag hM hP hlen hst2 hob hv1' hV hl1 hl2 hCb hc2 hobj2
      cases Cb with
      | false =>
        have hkn : t.kids = [] := by
          have := HOBJ.out
          rw [if_neg (by decide)] at this
          simp only [Bool.and_eq_true, decide_eq_true_eq] at this
          exact List.eq_nil_of_length_eq_zero this.2
        have hCv : C = t.val := by rw [HC.out, hkn]; simp [encL]
        have hsl6 := HV.out
        rw [← hCv] at hsl6
        obtain ⟨A6, hA6⟩ : ∃ x, x = A1 := ⟨_, rfl⟩
        obtain ⟨c6, hc6⟩ : ∃ x, x = c1 := ⟨_, rfl⟩
        have hVC : V = C.length := by rw [HVV.out, hCv]
        subst hVC
        subst hA6 hc6
        have hob6 := HO.out
        have hap6 : 0 < C.length → (Value.slice A6 C.length c6).ownBlock ≠ (Value.slice Av P.length cv).ownBlock := HAP.out
        clear hCv hkn
        by_cases hbig : 4096 < C.length
        · have HF : Hid (4096 < (encL ts).length) := by show _ < _; have := HLEN.out.1; omega
          go_wp2_with (go_at_call 47; refine (HC2.out _).mono ?_; rintro e w' ⟨rfl, rfl⟩)
          go_ret2
          refine ⟨_, ret_pair (allB_f HF.out).symm, ?_, hbel⟩
          rw [allM_f HF.out]
          exact FS.nil _ _ _ _ (Nat.zero_le _)
        · have hbig2 : C.length ≤ 4096 := by omega
          clear hbig
          go_wp2_with (go_at_call 47; refine (HC2.out _).mono ?_; rintro e w' ⟨rfl, rfl⟩)
          refine (rhead_any N C.length wr (by omega) (by omega)).mono ?_
          rintro e w4 ⟨v4, rfl, hv4, hb4⟩
          have s4 := hb4.size
          obtain ⟨Hd, hHd⟩ : ∃ x, x = tagF (N : Int) ++ lenF C.length := ⟨_, rfl⟩
          rw [← hHd] at hv4
          have HHD := Lib.hid hHd
          have hh1 : 0 < Hd.length := by have := lenF_pos C.length; rw [hHd]; simp; omega
          have hh2 : Hd.length ≤ 5 := by have := HL1.out; have := HL2.out; rw [hHd]; simp; omega
          clear hHd
          obtain ⟨A4, c4, e4, k4, k5, _⟩ := id hv4.sl
          subst e4
          have sb := hbel.size
          have hob4 := hob6.later hb4
          go_wp2_with (first
            | (at_builtin; refine wpList_appG rfl (.tmp 41) (.tmp 49) rfl w.heap.size _ P Hd A4 c4 rfl rfl hob4 hh1 (SL.rd hv4.sl).2 (by omega) (by omega) ?_; intro v5 w5 hv5 hg5; have hsl5 := (hsl6.on hb4).grown hap6 hg5; have b4 : Below w.heap.size w w4 := hbel.trans (hb4.mono sb); have b5 : Below w.heap.size w w5 := b4.grown hg5 b4.size (fun k hk => (hob4.lt k hk).1); have s5 := b5.size; clear hg5 hap6)
            | (at_builtin; refine wpList_appS rfl (.tmp 51) (.tmp 52) rfl w5 w.heap.size _ (P ++ Hd) C A6 c6 rfl rfl (Below.refl _ _) hv5 (SL.rd hsl5).2 (by simp; omega) (by omega) ?_; intro v7 w7 hv7 hb7; have b7 : Below w.heap.size w w7 := b5.trans hb7; rw [HHD.out, ← HST.out] at hv7; obtain ⟨A7, c7, e7, k8, k9, _⟩ := id hv7.sl; subst e7; obtain ⟨Z, hZ⟩ : ∃ Z, Z = (encL (ts.take (k + 1))).length := ⟨_, rfl⟩; have HV7 := Lib.hid hv7; rw [← hZ]; have HZ := Lib.hid hZ; clear hZ hv7))
          · have HF : Hid (4096 < (encL ts).length) := by show _ < _; have := encL_take_le ts (k + 1); have := HZ.out; omega
            go_ret2
            refine ⟨_, ret_pair (allB_f HF.out).symm, ?_, b7⟩
            rw [allM_f HF.out]
            exact FS.nil _ _ _ _ (Nat.zero_le _)
          · go_roundw
            case rel => exact ⟨k + 1, by omega, by go_num, by rw [← HZ.out]; omega, by rw [HZ.out]; exact HV7.out, b7⟩
            case measure => simp [intOf]; omega
      | true =>
        have hvn : t.val = [] := by
          have := HOBJ.out
          rw [if_pos rfl] at this
          exact List.eq_nil_of_length_eq_zero (by simpa using this)
        have hCv : C = encL t.kids := by rw [HC.out, hvn, List.nil_append]
        by_cases hkl2 : (encL t.kids).length ≤ 4096
        · have hih := HIH.out
          rw [allB_t hkl2, allM_t hkl2, ← hCv] at hih
          have HI := Lib.hid hih
          have hbig2 : C.length ≤ 4096 := by rw [hCv]; exact hkl2
          clear hih hvn hkl2 hCv
          go_wp2_with (first
            | (go_at_call 47; refine (HC2.out _).mono ?_; rintro e w' ⟨rfl, rfl⟩)
            | (go_at_call 73; refine (HI.out _ _ HU.out).mono ?_; rintro e w6 ⟨v6, rfl, hv6, hb6⟩; have hv6' := hv6.1; obtain ⟨A6, c6, rfl, _⟩ := hv6'; have q6 := (hb6.cell (p := ⟨b, o + k * 3, none⟩) (show b < wr.heap.size by omega)).trans g1))
          have hob6 := HO.out.later hb6
          have hsl6 := hv6.1
          have hbel6 : Below w.heap.size w w6 := hbel.trans (hb6.mono hsz)
          have hap6 : 0 < C.length → (Value.slice A6 C.length c6).ownBlock ≠ (Value.slice Av P.length cv).ownBlock := fun hp e => by
            obtain ⟨b6, q1, q2⟩ := hv6.2.out hp
            have := (HO.out.block_ge b6 (by rw [← e]; exact q1)).2
            omega
          refine (rhead_any N C.length w6 (by omega) (by omega)).mono ?_
          rintro e w4 ⟨v4, rfl, hv4, hb4⟩
          have s4 := hb4.size
          obtain ⟨Hd, hHd⟩ : ∃ x, x = tagF (N : Int) ++ lenF C.length := ⟨_, rfl⟩
          rw [← hHd] at hv4
          have HHD := Lib.hid hHd
          have hh1 : 0 < Hd.length := by have := lenF_pos C.length; rw [hHd]; simp; omega
          have hh2 : Hd.length ≤ 5 := by have := HL1.out; have := HL2.out; rw [hHd]; simp; omega
          clear hHd
          obtain ⟨A4, c4, e4, k4, k5, _⟩ := id hv4.sl
          subst e4
          have sb := hbel6.size
          have hob4 := hob6.later hb4
          go_wp2_with (first
            | (at_builtin; refine wpList_appG rfl (.tmp 41) (.tmp 49) rfl w.heap.size _ P Hd A4 c4 rfl rfl hob4 hh1 (SL.rd hv4.sl).2 (by omega) (by omega) ?_; intro v5 w5 hv5 hg5; have hsl5 := (hsl6.on hb4).grown hap6 hg5; have b4 : Below w.heap.size w w4 := hbel6.trans (hb4.mono sb); have b5 : Below w.heap.size w w5 := b4.grown hg5 b4.size (fun k hk => (hob4.lt k hk).1); have s5 := b5.size; clear hg5 hap6)
            | (at_builtin; refine wpList_appS rfl (.tmp 51) (.tmp 52) rfl w5 w.heap.size _ (P ++ Hd) C A6 c6 rfl rfl (Below.refl _ _) hv5 (SL.rd hsl5).2 (by simp; omega) (by omega) ?_; intro v7 w7 hv7 hb7; have b7 : Below w.heap.size w w7 := b5.trans hb7; rw [HHD.out, ← HST.out] at hv7; obtain ⟨A7, c7, e7, k8, k9, _⟩ := id hv7.sl; subst e7; obtain ⟨Z, hZ⟩ : ∃ Z, Z = (encL (ts.take (k + 1))).length := ⟨_, rfl⟩; have HV7 := Lib.hid hv7; rw [← hZ]; have HZ := Lib.hid hZ; clear hZ hv7))
          · have HF : Hid (4096 < (encL ts).length) := by show _ < _; have := encL_take_le ts (k + 1); have := HZ.out; omega
            go_ret2
            refine ⟨_, ret_pair (allB_f HF.out).symm, ?_, b7⟩
            rw [allM_f HF.out]
            exact FS.nil _ _ _ _ (Nat.zero_le _)
          · go_roundw
            case rel => exact ⟨k + 1, by omega, by go_num, by rw [← HZ.out]; omega, by rw [HZ.out]; exact HV7.out, b7⟩
            case measure => simp [intOf]; omega
        · have HF : Hid (4096 < (encL ts).length) := by show _ < _; have := HLEN.out.1; rw [hCv] at this; omega
          have hih := HIH.out
          rw [allB_f (by omega)] at hih
          have HI := Lib.hid hih
          clear hih hvn hkl2 hCv
          go_wp2_with (first
            | (go_at_call 47; refine (HC2.out _).mono ?_; rintro e w' ⟨rfl, rfl⟩)
            | (go_at_call 73; refine (HI.out _ _ HU.out).mono ?_; rintro e w6 ⟨v6, rfl, hv6, hb6⟩))
          go_ret2
          refine ⟨_, ret_pair (allB_f HF.out).symm, ?_, hbel.trans (hb6.mono hsz)⟩
          rw [allM_f HF.out]
          exact FS.nil _ _ _ _ (Nat.zero_le _)
    · have hke : k = ts.length := by omega
      rw [hke, List.take_length] at hob hln
      have HF := Lib.hid hln
      obtain ⟨Av, cv, ev, hv2, hv3, _⟩ := id hob.sl
      subst ev
      go_wp2_with fail
      go_ret2
      refine ⟨_, ret_pair (allB_t HF.out).symm, ?_, hbel⟩
      rw [allM_t HF.out]
      exact hob.fs
end Go.Proofs.Ytahnmnbjgbfeaaa
