/-
  Lists of data objects compared: mathematics, and the walks of Same of the program and of the reference.
-/
import Derived.Test.YtahnmnbjgbfeaaaTjl
namespace Go.Proofs.Ytahnmnbjgbfeaaa
set_option linter.unusedVariables false
set_option linter.unusedSimpArgs false
open Go.RowKit

mutual
def T.sam : T → T → Bool
  | .mk tag val ks, b => decide (tag = b.tag) && (decide (val = b.val) && samT ks b.kids)
def samT : List T → List T → Bool
  | [], us => us.isEmpty
  | t :: ts, us => decide (0 < us.length) && (t.sam (us.getD 0 T.zero) && samT ts (us.drop 1))
end
theorem samT_parts (a b : T) : a.sam b = (decide (a.tag = b.tag) && (decide (a.val = b.val) && samT a.kids b.kids)) := by cases a; rw [T.sam]; rfl
theorem samT_cons (t u : T) (ts us : List T) : samT (t :: ts) (u :: us) = (t.sam u && samT ts us) := by rw [samT]; simp
theorem samT_len : ∀ (ts us : List T), ¬ ts.length = us.length → samT ts us = false
  | [], us, h => by
    rw [samT]
    cases us with
    | nil => exact absurd rfl h
    | cons => rfl
  | t :: ts, us, h => by
    cases us with
    | nil => rw [samT]; simp
    | cons u us => rw [samT_cons, samT_len ts us (by simpa using h), Bool.and_false]
theorem samT_drop (ts us : List T) (k : Nat) (h : k < ts.length) (h' : k < us.length) : samT (ts.drop k) (us.drop k) = ((ts[k]).sam us[k] && samT (ts.drop (k + 1)) (us.drop (k + 1))) := by
  rw [List.drop_eq_getElem_cons h, List.drop_eq_getElem_cons h', samT_cons]
mutual
theorem T.sam_eq : ∀ a b : T, a.sam b = true ↔ a = b
  | .mk tag val ks, b => by
    have h := samT_eq ks b.kids
    rw [T.sam]
    obtain ⟨tag', val', ks'⟩ := b
    rw [Bool.and_eq_true, Bool.and_eq_true, decide_eq_true_eq, decide_eq_true_eq, T.mk.injEq]
    replace h : samT ks ks' = true ↔ ks = ks' := h
    show tag = tag' ∧ val = val' ∧ samT ks ks' = true ↔ tag = tag' ∧ val = val' ∧ ks = ks'
    rw [h]
theorem samT_eq : ∀ ts us : List T, samT ts us = true ↔ ts = us
  | [], us => by
    rw [samT]
    cases us with
    | nil => simp
    | cons u us => simp
  | t :: ts, us => by
    cases us with
    | nil => rw [samT]; simp
    | cons u us =>
      have h1 := T.sam_eq t u
      have h2 := samT_eq ts us
      rw [samT_cons, Bool.and_eq_true, List.cons.injEq, h1, h2]
end
theorem samT_comm (ts us : List T) : samT ts us = samT us ts := by
  rw [Bool.eq_iff_iff, samT_eq, samT_eq]
  exact eq_comm
theorem samT_refl (ts : List T) : samT ts ts = true := (samT_eq ts ts).2 rfl
theorem ba_tl (a b : ByteArray) : a.toList = b.toList ↔ a = b := by
  rw [ByteArray.toList_eq, ByteArray.toList_eq]
  constructor
  · intro h; exact ByteArray.ext (Array.toList_inj.1 h)
  · intro h; rw [h]
theorem ba_beq (l m : List UInt8) : ((⟨l.toArray⟩ : ByteArray).toList == (⟨m.toArray⟩ : ByteArray).toList) = decide (l = m) := by
  rw [Bool.eq_iff_iff, beq_iff_eq, decide_eq_true_eq, ba_tl]
  constructor
  · intro h
    have := congrArg (fun b : ByteArray => b.data.toList) h
    simpa using this
  · intro h; rw [h]
theorem pbeq_any (l m : List UInt8) (v u : Value) (w : World) (B : Nat) (h1 : SL w B v l) (h2 : SL w B u m) : Calls Try.prog 81 #[v, u] w fun e w' => e = .returned (.bool (decide (l = m))) ∧ w' = w := by
  have h := Try.bytes_Equal_strs v u _ _ w h1.convert h2.convert
  rw [ba_beq] at h
  exact h

def SamBox (w : World) (sb : Nat) : Prop := sb < w.heap.size ∧ w.heap[sb]? = some (.cells #[.func (Fn.func 80) #[] #[.pointer (some ⟨sb, 0, none⟩)]] 81 (0, 0))
theorem SamBox.on {w w' : World} {sb : Nat} (h : SamBox w sb) (hb : Below w.heap.size w w') : SamBox w' sb := ⟨Nat.lt_of_lt_of_le h.1 hb.size, (hb.block sb h.1).trans h.2⟩
def PsaC (ts : List T) : Prop := ∀ (us : List T) (va vb : Value) (sb d : Nat) (w : World), TL w w.heap.size va ts → TL w w.heap.size vb us → SamBox w sb → d + depL ts ≤ 60000 →
  Calls Try.prog 80 #[va, vb, .int .i64 (d : Int), .pointer (some ⟨sb, 0, none⟩)] w fun e w' => e = .returned (.bool (samT ts us)) ∧ Below w.heap.size w w'

set_option maxRecDepth 100000 in
set_option maxHeartbeats 12800000 in
theorem psa_step (ts : List T) (ih : ∀ ts' : List T, depL ts' < depL ts → PsaC ts') : PsaC ts := by
  intro us va vb sb d w hka hkb hbx hd
  have IH := Lib.hid ih
  clear ih
  obtain ⟨A1, c1, rfl, h11, h12, h13⟩ := hka
  obtain ⟨A2, c2, rfl, h21, h22, h23⟩ := hkb
  unfold maxLen at h12 h22
  have HSL := Lib.hid (samT_len ts us)
  have HX := Lib.hid hbx
  clear hbx
  have hd2 : (d : Int) ≤ 60000 := by omega
  have hd3 : ¬ (65536 : Int) < (d : Int) := by omega
  have hd4 : decide ((65536 : Int) < (d : Int)) = false := decide_eq_false hd3
  go_enter Try.func80, Try.ntmps80
  by_cases e3 : ts.length = us.length
  · have E3 := Lib.hid e3
    have x1 : (ts.length : Int) = (us.length : Int) := by omega
    have x2 : ((ts.length : Int) == (us.length : Int)) = true := beq_iff_eq.2 x1
    have x5 : ((ts.length : Int) != (us.length : Int)) = false := by rw [bne, x2]; rfl
    clear e3 x1 HSL
    by_cases h0 : 0 < ts.length
    rotate_left
    · have HSE : Hid (samT ts us = true) := by
        show _ = _
        have hu0 : us = [] := List.length_eq_zero_iff.1 (by have := E3.out; omega)
        have ht0 : ts = [] := List.length_eq_zero_iff.1 (by omega)
        rw [ht0, hu0, samT]; rfl
      go_wp2_with fail
      clear x2 x5
      go_loopw [27] (fun i wr => i = .int .i64 0 ∧ Hid (Below w.heap.size w wr)) (fun i _ => 0)
      case atStart => exact ⟨rfl, Below.refl _ _⟩
      case round =>
        obtain ⟨rfl, HB⟩ := hrel
        go_wp2_with fail
        go_ret
        exact ⟨ret_bool HSE.out.symm, HB.out⟩
    ·
      go_wp2_with fail
      clear x2 x5
      go_loopw [27] (fun i wr => ∃ (k : Nat), k ≤ ts.length ∧ i = .int .i64 k ∧ Hid (samT ts us = samT (ts.drop k) (us.drop k)) ∧ Hid (Below w.heap.size w wr)) (fun i _ => ts.length - (intOf i).toNat)
      case atStart => exact ⟨0, Nat.zero_le _, rfl, by show _ = _; rw [List.drop_zero, List.drop_zero], Below.refl _ _⟩
      case round =>
        obtain ⟨k, hkl, rfl, HS, HB⟩ := hrel
        have hsr := HB.out.size
        by_cases hlt : k < ts.length
        · have hlt2 : k < us.length := by have := E3.out; omega
          obtain ⟨b1, o1, rfl, hb1, hts1⟩ := h13.out (by omega)
          obtain ⟨b2, o2, rfl, hb2, hts2⟩ := h23.out (by omega)
          have hta := TsAt.get hts1 hlt
          have htb := TsAt.get hts2 hlt2
          have hdp := depL_get ts k hlt
          have hsd := samT_drop ts us k hlt hlt2
          obtain ⟨t, ht⟩ : ∃ t, t = ts[k] := ⟨_, rfl⟩
          obtain ⟨u, hu⟩ : ∃ u, u = us[k] := ⟨_, rfl⟩
          rw [← ht] at hta hdp hsd
          rw [← hu] at htb hsd
          have hkt := dep_kids t
          have hta' := TAt.keep HB.out.size (fun p hp => HB.out.cell hp) t b1 _ hb1 hta
          have htb' := TAt.keep HB.out.size (fun p hp => HB.out.cell hp) u b2 _ hb2 htb
          obtain ⟨A3, c3, A4, c4, g1, g2, g3, hv1, hu1⟩ := hta'.cells
          obtain ⟨A5, c5, A6, c6, f1, f2, f3, hv2, hu2⟩ := htb'.cells
          have hsp := samT_parts t u
          have hbb1 : b1 < wr.heap.size := by omega
          have hbb2 : b2 < wr.heap.size := by omega
          have i1 : (0 : Int) ≤ (k : Int) := by omega
          have i2 : (k : Int) < (us.length : Int) := by omega
          have i3 : (k : Int) < (ts.length : Int) := by omega
          have hba := alloc2_below wr (Obj.cells #[Value.int IntKind.i64 t.tag, Value.slice A3 t.val.length c3, Value.slice A4 t.kids.length c4] 58) (Obj.cells #[Value.int IntKind.i64 u.tag, Value.slice A5 u.val.length c5, Value.slice A6 u.kids.length c6] 58)
          have hxw := HX.out.on (HB.out.trans (hba.mono HB.out.size))
          have hxc := cell_of_row _ _ 0 _ _ _ hxw.2
          have hsbl := hxw.1
          have HBA := Lib.hid hba
          have HV : Hid (Calls Try.prog 80 #[.slice A4 t.kids.length c4, .slice A6 u.kids.length c6, .int .i64 ((d : Int) + 1), .pointer (some ⟨sb, 0, none⟩)] ((wr.alloc (Obj.cells #[Value.int IntKind.i64 t.tag, Value.slice A3 t.val.length c3, Value.slice A4 t.kids.length c4] 58)).alloc (Obj.cells #[Value.int IntKind.i64 u.tag, Value.slice A5 u.val.length c5, Value.slice A6 u.kids.length c6] 58)) fun e w' => e = .returned (.bool (samT t.kids u.kids)) ∧ Below ((wr.alloc (Obj.cells #[Value.int IntKind.i64 t.tag, Value.slice A3 t.val.length c3, Value.slice A4 t.kids.length c4] 58)).alloc (Obj.cells #[Value.int IntKind.i64 u.tag, Value.slice A5 u.val.length c5, Value.slice A6 u.kids.length c6] 58)).heap.size ((wr.alloc (Obj.cells #[Value.int IntKind.i64 t.tag, Value.slice A3 t.val.length c3, Value.slice A4 t.kids.length c4] 58)).alloc (Obj.cells #[Value.int IntKind.i64 u.tag, Value.slice A5 u.val.length c5, Value.slice A6 u.kids.length c6] 58)) w') := by
            have := IH.out t.kids (by omega) u.kids (.slice A4 t.kids.length c4) (.slice A6 u.kids.length c6) sb (d + 1) ((wr.alloc (Obj.cells #[Value.int IntKind.i64 t.tag, Value.slice A3 t.val.length c3, Value.slice A4 t.kids.length c4] 58)).alloc (Obj.cells #[Value.int IntKind.i64 u.tag, Value.slice A5 u.val.length c5, Value.slice A6 u.kids.length c6] 58)) (hu1.on hba) (hu2.on hba) hxw (by omega)
            rw [show ((d + 1 : Nat) : Int) = (d : Int) + 1 by omega] at this
            exact this
          have HQ := Lib.hid (pbeq_any t.val u.val (.slice A3 t.val.length c3) (.slice A5 u.val.length c5) ((wr.alloc (Obj.cells #[Value.int IntKind.i64 t.tag, Value.slice A3 t.val.length c3, Value.slice A4 t.kids.length c4] 58)).alloc (Obj.cells #[Value.int IntKind.i64 u.tag, Value.slice A5 u.val.length c5, Value.slice A6 u.kids.length c6] 58)) _ (hv1.on hba) (hv2.on hba))
          have hwr : IntKind.i64.wrap ((d : Int) + 1) = (d : Int) + 1 := IntWalk.i64_in _ (by omega)
          have HSD := Lib.hid hsd
          have HSP := Lib.hid hsp
          have HBB := Lib.hid (HB.out.trans (hba.mono HB.out.size))
          have hsz : ((wr.alloc (Obj.cells #[Value.int IntKind.i64 t.tag, Value.slice A3 t.val.length c3, Value.slice A4 t.kids.length c4] 58)).alloc (Obj.cells #[Value.int IntKind.i64 u.tag, Value.slice A5 u.val.length c5, Value.slice A6 u.kids.length c6] 58)).heap.size = wr.heap.size + 2 := by rw [alloc_size, alloc_size]
          have HSZ := Lib.hid hsz
          have hxr := (HX.out.on HB.out).1
          have hxc0 := cell_of_row _ _ 0 _ _ _ (HX.out.on HB.out).2
          clear hta hta' htb htb' hts1 hts2 ht hu hsd hsp hv1 hv2 hu1 hu2 hba hxw hsz hdp hkt hsbl
          by_cases e1 : t.tag = u.tag
          · have y2 : (t.tag == u.tag) = true := beq_iff_eq.2 e1
            have y5 : (t.tag != u.tag) = false := by rw [bne, y2]; rfl
            by_cases e2 : t.val = u.val
            · have hq := HQ.out
              rw [decide_eq_true e2] at hq
              have HQ2 := Lib.hid hq
              obtain ⟨X, hX⟩ : ∃ X, X = samT t.kids u.kids := ⟨_, rfl⟩
              have hv := HV.out
              rw [← hX] at hv
              have HV2 := Lib.hid hv
              have hpp := HSP.out
              rw [decide_eq_true e1, decide_eq_true e2, ← hX, Bool.true_and, Bool.true_and] at hpp
              have HPP := Lib.hid hpp
              have E1 := Lib.hid e1
              clear hq hv hX hpp HQ HV HSP e2 e1
              go_wp2_with fail
              refine HQ2.out.mono ?_
              rintro e9 wz ⟨rfl, hz⟩
              rw [hz]
              clear hz wz HQ2
              go_wp2_with fail
              refine HV2.out.mono ?_
              rintro e9 wz ⟨rfl, hz⟩
              have HZ : Hid (Below w.heap.size w wz) := HBB.out.trans (hz.mono (by have := HSZ.out; omega))
              clear hz HV2
              cases X with
              | false =>
                go_wp2_with fail
                go_ret
                exact ⟨ret_bool (by rw [HS.out, HSD.out, HPP.out]; rfl), HZ.out⟩
              | true =>
                go_wp2_with fail
                go_roundw
                case rel => exact ⟨k + 1, by omega, by go_num, by show _ = _; rw [HS.out, HSD.out, HPP.out, Bool.true_and], HZ⟩
                case measure => simp [intOf]; omega
            · have hq := HQ.out
              rw [decide_eq_false e2] at hq
              have HQ2 := Lib.hid hq
              have hpp := HSP.out
              rw [decide_eq_false e2, Bool.false_and, Bool.and_false] at hpp
              have HPP := Lib.hid hpp
              clear hq hpp HQ HV HSP e2 e1
              go_wp2_with fail
              refine HQ2.out.mono ?_
              rintro e9 wz ⟨rfl, hz⟩
              rw [hz]
              clear hz wz HQ2
              go_wp2_with fail
              go_ret
              exact ⟨ret_bool (by rw [HS.out, HSD.out, HPP.out]; rfl), HBB.out⟩
          · have y2 : (t.tag == u.tag) = false := beq_eq_false_iff_ne.2 e1
            have y5 : (t.tag != u.tag) = true := by rw [bne, y2]; rfl
            have hpp := HSP.out
            rw [decide_eq_false e1, Bool.false_and] at hpp
            have HPP := Lib.hid hpp
            clear hpp HQ HV HSP
            go_wp2_with fail
            go_ret
            exact ⟨ret_bool (by rw [HS.out, HSD.out, HPP.out]; rfl), HBB.out⟩
        · have HS2 : Hid (samT ts us = true) := by
            show _ = _
            rw [HS.out, List.drop_eq_nil_of_le (by omega), List.drop_eq_nil_of_le (by have := E3.out; omega), samT]
            rfl
          go_wp2_with fail
          go_ret
          exact ⟨ret_bool HS2.out.symm, HB.out⟩
  · have HSM := Lib.hid (HSL.out e3)
    have x1 : ¬ (ts.length : Int) = (us.length : Int) := by omega
    have x2 : ((ts.length : Int) == (us.length : Int)) = false := beq_eq_false_iff_ne.2 x1
    have x5 : ((ts.length : Int) != (us.length : Int)) = true := by rw [bne, x2]; rfl
    clear HSL
    go_wp2_with fail
    go_ret
    exact ⟨ret_bool HSM.out.symm, Below.refl _ _⟩
end Go.Proofs.Ytahnmnbjgbfeaaa
