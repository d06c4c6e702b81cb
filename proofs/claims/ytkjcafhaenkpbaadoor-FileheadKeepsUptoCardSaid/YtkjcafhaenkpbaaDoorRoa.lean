/-
  What the reference's header writes, before its methods: own rows laid by a literal; two bytes of a number.
-/
import Derived.Test.YtkjcafhaenkpbaaDoorMet
import Derived.Test.YtkjcafhaenkpbaaDoorChs
import Derived.Test.YtkjcafhaenkpbaaDoorRen
namespace Go.Proofs.YtkjcafhaenkpbaaDoor
set_option linter.unusedVariables false
set_option linter.unusedSimpArgs false
open Go.RowKit

set_option maxRecDepth 100000 in
theorem rencode_fs (ts : List T) (v : Value) (w : World) (hv : TL w w.heap.size v ts) :
    Calls Tryd.prog 34 #[v] w fun e w' => ∃ v', e = .returned (.tuple #[v', .int .i64 (encE ts)]) ∧ FS w' w.heap.size v' (encM ts) ∧ Below w.heap.size w w' := by
  have HV := Lib.hid hv
  have hc := rright_any ts v w hv
  obtain ⟨A, c, rfl, h1, h2, h3⟩ := hv
  cases hok : okL 1 ts with
  | false =>
    rw [hok] at hc
    have HC := Lib.hid hc
    have HM := Lib.hid (show encM ts = [] by unfold encM; rw [hok]; rfl)
    have HE := Lib.hid (show encE ts = 1 by unfold encE; rw [hok]; rfl)
    clear hc hok
    go_enter Tryd.func34, Tryd.ntmps34
    rw [HM.out, HE.out]
    go_wp2_with (go_at_call 62; refine HC.out.mono ?_; rintro e w2 ⟨rfl, hb2⟩)
    go_ret2
    exact ⟨_, rfl, FS.nil _ _ 0 none (Nat.zero_le _), hb2⟩
  | true =>
    rw [hok] at hc
    have HC := Lib.hid hc
    have hal := all_any (depL ts + 1) ts 1 (by omega) hok
    unfold AllC at hal
    by_cases hl : 4096 < (encL ts).length
    · have HM := Lib.hid (show encM ts = [] by unfold encM; rw [if_pos hok, if_pos hl])
      have HE := Lib.hid (show encE ts = 3 by unfold encE; rw [if_pos hok, if_pos hl])
      rw [allB_f hl, allM_f hl] at hal
      have HA := Lib.hid hal
      clear hc hok hal hl
      go_enter Tryd.func34, Tryd.ntmps34
      rw [HM.out, HE.out]
      go_wp2_with (first
        | (go_at_call 62; refine HC.out.mono ?_; rintro e w2 ⟨rfl, hb2⟩)
        | (go_at_call 63; refine (HA.out _ _ (HV.out.on hb2)).mono ?_; rintro e w3 ⟨v3, rfl, hv3, hb3⟩))
      go_ret2
      exact ⟨_, rfl, FS.nil _ _ 0 none (Nat.zero_le _), hb2.trans (hb3.mono hb2.size)⟩
    · have HM := Lib.hid (show encM ts = encL ts by unfold encM; rw [if_pos hok, if_neg hl])
      have HE := Lib.hid (show encE ts = 0 by unfold encE; rw [if_pos hok, if_neg hl])
      rw [allB_t (by omega), allM_t (by omega)] at hal
      have HA := Lib.hid hal
      clear hc hok hal hl
      go_enter Tryd.func34, Tryd.ntmps34
      rw [HM.out, HE.out]
      go_wp2_with (first
        | (go_at_call 62; refine HC.out.mono ?_; rintro e w2 ⟨rfl, hb2⟩)
        | (go_at_call 63; refine (HA.out _ _ (HV.out.on hb2)).mono ?_; rintro e w3 ⟨v3, rfl, hv3, hb3⟩))
      go_ret2
      exact ⟨_, rfl, hv3.more hb2.size, hb2.trans (hb3.mono hb2.size)⟩


set_option maxRecDepth 100000 in
set_option maxHeartbeats 6400000 in
theorem rencr_fs (rs : List Rl) (v : Value) (w : World) (hk : RL w w.heap.size v rs) (hc : ∀ (k : Nat) (h : k < rs.length), rs[k].cond.cnt ≤ 400) :
    Calls Tryd.prog 65 #[v] w (EnrF rs w) := by
  have HV := Lib.hid (rchr_any rs v w hk fun k h => Nat.le_trans (hc k h) (by omega))
  obtain ⟨A, cap, rfl, h1, h2, h3⟩ := id hk
  unfold maxLen at h2
  have HK := Lib.hid hk
  clear hk hc
  by_cases h0 : chkR rs = 0
  · have hs0 : chkS rs = 0 := by
      unfold chkR at h0
      by_cases h8 : 8 < rs.length
      · rw [if_pos h8] at h0; omega
      · rw [if_neg h8] at h0; exact h0
    have h8 : rs.length ≤ 8 := by
      unfold chkR at h0
      by_cases h8 : 8 < rs.length
      · rw [if_pos h8] at h0; omega
      · omega
    have HG := Lib.hid fun k hk => chkS_get rs k hk hs0
    have HRE : Hid (rE rs = encE (rts rs)) := if_pos h0
    have HRM : Hid (rM rs = encM (rts rs)) := if_pos h0
    have HL : Hid ((encL (rts rs)).length ≤ 100000) := by
      show _ ≤ _
      have := rts_len rs (fun k hk => (chk_len (HG.out k hk).2).1)
      omega
    rw [h0] at HV
    clear h0 hs0
    go_enter Tryd.func65, Tryd.ntmps65
    go_wp2_with fail
    refine HV.out.mono ?_
    rintro e w1 ⟨rfl, hb1⟩
    have HB1 := Lib.hid hb1
    clear hb1
    go_wp2_with fail
    go_loopw [5, 6] (fun q i wr => ∃ (k : Nat), k ≤ rs.length ∧ i = .int .i64 k ∧ Hid (OT wr w.heap.size q ((rs.take k).map rby)) ∧ Hid (Below w.heap.size w wr)) (fun _ i _ => rs.length - (intOf i).toNat)
    case atStart => exact ⟨0, Nat.zero_le _, rfl, by rw [List.take_zero]; exact OT.nil _ _, HB1⟩
    case round =>
      obtain ⟨k, hkl, rfl, HO, HB⟩ := hrel
      by_cases hlt : k < rs.length
      · obtain ⟨b1, o1, rfl, hb1, hts⟩ := h3.out (by omega)
        have hra := (hts k hlt).keep hb1 HB.out.size (fun p hp => HB.out.cell hp)
        have hg := HG.out k hlt
        have htk : (rs.take (k + 1)).map rby = (rs.take k).map rby ++ [rby rs[k]] := by
          rw [List.take_succ_eq_append_getElem hlt, List.map_append]; rfl
        obtain ⟨r, hr⟩ : ∃ r, r = rs[k] := ⟨_, rfl⟩
        rw [← hr] at hra hg htk
        clear hts hr
        obtain ⟨ops, c⟩ := r
        obtain ⟨g0, hca⟩ := hra
        obtain ⟨A2, c2, g1, g2, g3, hu⟩ := hca.cells
        simp only at g0 g1 g2 g3 hu hg
        obtain ⟨hg1, hg2⟩ := hg
        have hops : 1 ≤ ops ∧ ops ≤ 255 := by unfold opsB at hg1; simpa using hg1
        obtain ⟨hop1, hop2⟩ := hops
        have hcl := chk_len hg2
        have hcc := Cn.enc_cnt c
        have hok := chk_ok hg2
        have hsb := HB.out.size
        obtain ⟨D, hD⟩ : ∃ D : Nat, ops = (D : Int) := ⟨ops.toNat, by omega⟩
        subst hD
        have hba := alloc_below wr (Obj.cells #[Value.int IntKind.u8 (D : Int)] 5)
        have HBA := Lib.hid hba
        have HBD := Lib.hid ((Below.refl wr.heap.size wr).drew)
        have HV : Hid (∀ W, Below wr.heap.size wr W → Calls Tryd.prog 89 #[.agg #[.int .i64 c.op, .int .i64 c.n, .slice A2 c.kids.length c2]] W (BytP c.enc W)) := fun W hW => byt_any (c.dep + 1) c (by omega) (.slice A2 c.kids.length c2) W hok (by omega) (hu.on hW)
        unfold BytP at HV
        have HTK := Lib.hid htk
        obtain ⟨A5, c5, hq5⟩ := HO.out.value
        rw [show ((rs.take k).map rby).length = k by simp; omega] at hq5
        subst hq5
        have i1 : (0 : Int) ≤ (k : Int) := by omega
        have i2 : (k : Int) < (rs.length : Int) := by omega
        have hbb : b1 < wr.heap.size := by omega
        have j1 : 0 ≤ (D : Int) := by omega
        have j2 : (D : Int) ≤ 255 := by omega
        have HSF : Hid (∀ W, Below wr.heap.size wr W → W.cell? ⟨b1, o1 + k * 4, none⟩ = some (.int .i64 (D : Int)) ∧ W.cell? ⟨b1, o1 + k * 4 + 1, none⟩ = some (.int .i64 c.op) ∧ W.cell? ⟨b1, o1 + k * 4 + 1 + 1, none⟩ = some (.int .i64 c.n) ∧ W.cell? ⟨b1, o1 + k * 4 + 1 + 2, none⟩ = some (.slice A2 c.kids.length c2)) := fun W hW => ⟨(hW.cell (p := ⟨b1, o1 + k * 4, none⟩) hbb).trans g0, (hW.cell (p := ⟨b1, o1 + k * 4 + 1, none⟩) hbb).trans g1, (hW.cell (p := ⟨b1, o1 + k * 4 + 1 + 1, none⟩) hbb).trans g2, (hW.cell (p := ⟨b1, o1 + k * 4 + 1 + 2, none⟩) hbb).trans g3⟩
        have HSF0 : Hid (∀ W, Below w.heap.size w W → W.cell? ⟨b1, o1 + k * 4, none⟩ = some (.int .i64 (D : Int)) ∧ W.cell? ⟨b1, o1 + k * 4 + 1, none⟩ = some (.int .i64 c.op) ∧ W.cell? ⟨b1, o1 + k * 4 + 1 + 1, none⟩ = some (.int .i64 c.n) ∧ W.cell? ⟨b1, o1 + k * 4 + 1 + 2, none⟩ = some (.slice A2 c.kids.length c2)) := fun W hW => ⟨((hW.cell (p := ⟨b1, o1 + k * 4, none⟩) hb1).trans (HB.out.cell (p := ⟨b1, o1 + k * 4, none⟩) hb1).symm).trans g0, ((hW.cell (p := ⟨b1, o1 + k * 4 + 1, none⟩) hb1).trans (HB.out.cell (p := ⟨b1, o1 + k * 4 + 1, none⟩) hb1).symm).trans g1, ((hW.cell (p := ⟨b1, o1 + k * 4 + 1 + 1, none⟩) hb1).trans (HB.out.cell (p := ⟨b1, o1 + k * 4 + 1 + 1, none⟩) hb1).symm).trans g2, ((hW.cell (p := ⟨b1, o1 + k * 4 + 1 + 2, none⟩) hb1).trans (HB.out.cell (p := ⟨b1, o1 + k * 4 + 1 + 2, none⟩) hb1).symm).trans g3⟩
        have hn1 := heap_alloc_new wr (Obj.cells #[Value.int IntKind.u8 (D : Int)] 5)
        have HN1 := Lib.hid hn1
        have HL1 := Lib.hid (show wr.heap.size < (wr.alloc (Obj.cells #[Value.int IntKind.u8 (D : Int)] 5)).drew.heap.size by show wr.heap.size < (wr.alloc (Obj.cells #[Value.int IntKind.u8 (D : Int)] 5)).heap.size; rw [alloc_size]; omega)
        have HOBF : Hid (∀ (W : World) (B : Nat), wr.heap.size ≤ B → W.heap[B]? = some (Obj.cells #[Value.int IntKind.u8 (D : Int)] 5) → OB W wr.heap.size (.slice (some ⟨B, 0, none⟩) 1 1) [UInt8.ofNat D]) := fun W B hB hc => OB.of_cells (w := W) (base := wr.heap.size) (g := B) (n := 1) (l := [UInt8.ofNat D]) hB rfl (by unfold maxLen; omega) (by rw [hc]; simp [bv]; omega)
        have w9 : IntKind.u8.wrap (D : Int) = (D : Int) := by rw [IntWalk.u8_in _ (by omega)]
        obtain ⟨x, hx⟩ : ∃ x, x = c.enc := ⟨_, rfl⟩
        rw [← hx] at HV
        obtain ⟨m8, hm8⟩ : ∃ m, m = [UInt8.ofNat D] ++ x := ⟨_, rfl⟩
        have HM8 := Lib.hid hm8
        have HMY : Hid (m8 = rby ⟨(D : Int), c⟩) := by show _ = _; rw [hm8, hx]; rfl
        have HNEV : Hid (∀ (W : World) (A : Option Addr) (cc : Nat), OB W wr.heap.size (.slice A m8.length cc) m8 → 0 < m8.length → (Value.slice A m8.length cc).ownBlock ≠ (Value.slice A5 k c5).ownBlock) := fun W A cc hob hp e => by
          obtain ⟨bb, oo, rfl, hlb, _⟩ := hob.sl.rd2 hp
          have h1 := (HO.out.ltB bb e.symm).2
          have h2 := (hob.ltB bb rfl).1
          omega
        have HLX := Lib.hid (show ([UInt8.ofNat D]).length + x.length ≤ 100000000 by rw [hx]; simp; omega)
        have HWB := Lib.hid HB.out.size
        have hlk : ((rs.take k).map rby).length ≤ 1000 := by simp; omega
        have HLK := Lib.hid hlk
        clear hca hu htk hba hn1 hx hm8 hlk
        go_wp2_with fail
        go_region_held3 (fun w' => w'.cell? ⟨b1, o1 + k * 4, none⟩ = some (.int .i64 (D : Int)) ∧ w'.cell? ⟨b1, o1 + k * 4 + 1, none⟩ = some (.int .i64 c.op) ∧ w'.cell? ⟨b1, o1 + k * 4 + 1 + 1, none⟩ = some (.int .i64 c.n) ∧ w'.cell? ⟨b1, o1 + k * 4 + 1 + 2, none⟩ = some (.slice A2 c.kids.length c2))
          (first
            | (go_keep; done)
            | exact HSF0.out _ hb10
            | exact HSF.out _ HB8.out
            | exact HSF.out _ hb8'
            | exact HSF.out _ hbx0
            | exact HSF.out _ (hbx0.trans ((alloc_below _ _).mono hbx0.size)))
          (first
            | (go_at_call 89; (with_reducible refine (HV.out _ HBA.out.drew).mono ?_); rintro e wx ⟨A7, c7, rfl, hsl, hbx⟩; have hbx0 := HBA.out.drew.trans (hbx.mono HBA.out.drew.size); have hobx := HOBF.out wx wr.heap.size (Nat.le_refl _) ((hbx.block wr.heap.size HL1.out).trans HN1.out); clear hbx)
            | (go_at_call 89; (with_reducible refine (HV.out _ HBD.out).mono ?_); rintro e wx ⟨A7, c7, rfl, hsl, hbx⟩; have hbx0 := HBD.out.trans (hbx.mono HBD.out.size); clear hbx)
            | (refine step_appS (by rfl) _ _ (by rfl) wx wr.heap.size _ [UInt8.ofNat D] x A7 c7 (by rfl) (by rfl) (Below.refl _ _) hobx (hsl.put (Below.refl _ wx)) HLX.out hbx0.size ?_; intro v8 w8 hob8 hb8; have hb8' := hbx0.trans hb8; clear hb8; rw [← HM8.out] at hob8; obtain ⟨A8, c8, rfl⟩ := hob8.value; have HO8 := Lib.hid ((HO.out.later hb8').later (alloc_below w8 (Obj.cells #[Value.int IntKind.i64 128, Value.slice A8 m8.length c8, Value.slice none 0 0] 53))); have HS8 := Lib.hid (hob8.sl.on (alloc_below w8 (Obj.cells #[Value.int IntKind.i64 128, Value.slice A8 m8.length c8, Value.slice none 0 0] 53))); have HNE8 := Lib.hid (HNEV.out w8 A8 c8 hob8); have HB8 := Lib.hid (hb8'.trans ((alloc_below w8 (Obj.cells #[Value.int IntKind.i64 128, Value.slice A8 m8.length c8, Value.slice none 0 0] 53)).mono hb8'.size)); have HZ8 := Lib.hid (Nat.le_trans HWB.out HB8.out.size); have hn8 := heap_alloc_new w8 (Obj.cells #[Value.int IntKind.i64 128, Value.slice A8 m8.length c8, Value.slice none 0 0] 53); clear hob8)
            | (refine step_appS (by rfl) _ _ (by rfl) (wx.alloc (Obj.cells #[Value.int IntKind.u8 (D : Int)] 5)) wr.heap.size _ [UInt8.ofNat D] x A7 c7 (by rfl) (by rfl) (Below.refl _ _) (HOBF.out _ wx.heap.size hbx0.size (heap_alloc_new _ _)) (hsl.put (alloc_below _ _)) HLX.out (Nat.le_trans hbx0.size (alloc_below wx _).size) ?_; intro v8 w8 hob8 hb8; have hb8' := (hbx0.trans ((alloc_below wx _).mono hbx0.size)).trans hb8; clear hb8; rw [← HM8.out] at hob8; obtain ⟨A8, c8, rfl⟩ := hob8.value; have HO8 := Lib.hid ((HO.out.later hb8').later (alloc_below w8 (Obj.cells #[Value.int IntKind.i64 128, Value.slice A8 m8.length c8, Value.slice none 0 0] 53))); have HS8 := Lib.hid (hob8.sl.on (alloc_below w8 (Obj.cells #[Value.int IntKind.i64 128, Value.slice A8 m8.length c8, Value.slice none 0 0] 53))); have HNE8 := Lib.hid (HNEV.out w8 A8 c8 hob8); have HB8 := Lib.hid (hb8'.trans ((alloc_below w8 (Obj.cells #[Value.int IntKind.i64 128, Value.slice A8 m8.length c8, Value.slice none 0 0] 53)).mono hb8'.size)); have HZ8 := Lib.hid (Nat.le_trans HWB.out HB8.out.size); have hn8 := heap_alloc_new w8 (Obj.cells #[Value.int IntKind.i64 128, Value.slice A8 m8.length c8, Value.slice none 0 0] 53); clear hob8)
            | (refine step_appT (by rfl) _ _ (by rfl) w.heap.size _ ((rs.take k).map rby) _ m8 w8.heap.size (by rfl) (by rfl) HO8.out HS8.out HNE8.out hn8 HLK.out HZ8.out ?_; intro v9 w9' hot9 hb9; have hb9' := HB.out.trans (HB8.out.mono HWB.out); have hb10 := hb9'.trans hb9))
        all_goals
          have HOT9 := Lib.hid hot9
          have HB10 := Lib.hid hb10
          clear hot9 hb10
          go_wp2_with fail
          go_roundw
          case rel => exact ⟨k + 1, by omega, by go_num, by rw [HTK.out, ← HMY.out]; exact HOT9.out, HB10⟩
          case measure => simp [intOf]; omega
      · have hot := HO.out
        rw [show k = rs.length by omega, List.take_length] at hot
        have htl := hot.tl
        have e : (rs.map rby).map tObj = rts rs := by rw [List.map_map]; rfl
        rw [e] at htl
        have HE := Lib.hid (rencode_fs (rts rs) _ wr htl)
        clear htl hot e
        go_wp2_with fail
        refine HE.out.mono ?_
        rintro e w5 ⟨v5, rfl, hsl5, hb5⟩
        have HB5 := Lib.hid (HB.out.trans (hb5.mono HB.out.size))
        obtain ⟨A6, c6, rfl, _⟩ := id hsl5.1
        have HSL5 := Lib.hid hsl5
        clear hsl5 hb5
        go_wp2_with fail
        go_ret2
        exact ⟨.slice A6 (encM (rts rs)).length c6, by rw [HRE.out]; rfl, by rw [HRM.out]; exact HSL5.out.more HB.out.size, HB5.out⟩
  · have HRE : Hid (rE rs = chkR rs) := if_neg h0
    have HRM : Hid (rM rs = []) := if_neg h0
    generalize chkR rs = E at *
    have he1 : (E != 0) = true := by simpa using h0
    have he2 : (E == 0) = false := by simpa using h0
    have he3 : decide (E = 0) = false := decide_eq_false h0
    go_enter Tryd.func65, Tryd.ntmps65
    go_wp2_with fail
    refine HV.out.mono ?_
    rintro e w1 ⟨rfl, hb1⟩
    go_wp2_with fail
    go_ret2
    exact ⟨.slice none 0 0, by rw [HRE.out]; rfl, by rw [HRM.out]; exact FS.nil _ _ 0 none (Nat.zero_le _), hb1⟩

theorem FX.ofOB {w : World} {x base : Nat} {v : Value} {l : List UInt8} (h : OB w base v l) (hx : x < base) : FX w x v l := ⟨h.sl, fun hp => by
  rcases h.2 with ⟨rfl, h0⟩ | ⟨g, cap, cur, rfl, hb, _⟩
  · omega
  · exact ⟨g, rfl, by omega⟩⟩
theorem putL_two (I : Nat) : putL I 2 = [UInt8.ofNat (I / 256), UInt8.ofNat I] := by simp [putL]
theorem two_any (I : Nat) (hI : I < 65536) (w : World) : Calls Tryd.prog 64 #[.int .i64 (I : Int)] w fun e w' => ∃ v', e = .returned v' ∧ FS w' w.heap.size v' (putL I 2) ∧ Below w.heap.size w w' := by
  have h1 : I / 256 < 256 := by omega
  have h2 : ((I / 256 : Nat) : Int) = (I : Int) / 256 := by omega
  have hb := alloc_below w (Obj.cells #[.int .u8 ((I / 256 : Nat) : Int), .int .u8 ((I % 256 : Nat) : Int)] 5)
  have hf := FS.new w #[.int .u8 ((I / 256 : Nat) : Int), .int .u8 ((I % 256 : Nat) : Int)] (putL I 2) (by rw [putL_two]; simp [bv, Nat.mod_eq_of_lt h1]) (by rw [putL_two]; simp)
  have HB := Lib.hid hb
  have HF := Lib.hid hf
  have HL := Lib.hid (putL_length I 2)
  clear hb hf
  go_enter Tryd.func64, Tryd.ntmps64
  go_wp2_with fail
  go_ret
  exact ⟨_, rfl, HF.out, HB.out⟩
/-- Two objects in a literal block of their own. -/
theorem OH.two {w : World} {base x g : Nat} {t1 t2 : Int} {u1 u2 : Value} {l1 l2 : List UInt8} (hb : base ≤ g) (h1 : FX w x u1 l1) (h2 : FX w x u2 l2) (n1 : 0 < l1.length → u1.ownBlock ≠ some g) (n2 : 0 < l2.length → u2.ownBlock ≠ some g)
    (h : w.heap[g]? = some (.cells #[.int .i64 t1, u1, .slice none 0 0, .int .i64 t2, u2, .slice none 0 0] 53 (0, 0))) : OH w base x (.slice (some ⟨g, 0, none⟩) 2 2) [(t1, l1), (t2, l2)] := by
  have o1 : u1.oneCell' = true := by obtain ⟨A, c, rfl, _⟩ := h1.1; rfl
  have o2 : u2.oneCell' = true := by obtain ⟨A, c, rfl, _⟩ := h2.1; rfl
  refine ⟨[(t1, u1), (t2, u2)], ⟨by simp [grow], .inr ⟨g, 2, _, rfl, hb, h, by simp, by unfold maxLen; omega, by simp, by simp [grow]⟩⟩, rfl, ?_, ?_⟩
  · intro y hy
    simp at hy
    rcases hy with rfl | rfl <;> assumption
  · intro k hk
    have hk2 : k = 0 ∨ k = 1 := by simp at hk; omega
    rcases hk2 with rfl | rfl
    · exact ⟨rfl, h1, n1⟩
    · exact ⟨rfl, h2, n2⟩
theorem rts_ok : ∀ rs : List Rl, okL 2 (rts rs) = true ∧ okL 1 (rts rs) = true
  | [] => ⟨rfl, rfl⟩
  | r :: rs => by
    have h := rts_ok rs
    have e : rts (r :: rs) = tObj (rby r) :: rts rs := rfl
    rw [e]
    have ho : objOk (tObj (rby r)) = true := rfl
    constructor
    · rw [okL, h.1, tObj, T.ok]; exact (by rw [show objOk (T.mk 128 (rby r) []) = true from rfl]; rfl)
    · rw [okL, h.2, tObj, T.ok]; exact (by rw [show objOk (T.mk 128 (rby r) []) = true from rfl]; rfl)
theorem rM_pos (rs : List Rl) (h : chkR rs = 0) : (0 < rs.length → 0 < (rM rs).length) ∧ (rs.length = 0 → rM rs = []) := by
  have h1 : rs.length ≤ 8 := by
    unfold chkR at h
    by_cases h8 : 8 < rs.length
    · rw [if_pos h8] at h; omega
    · omega
  have h0 : chkS rs = 0 := by unfold chkR at h; rw [if_neg (by omega)] at h; exact h
  have h3 := rts_len rs (fun k hk => (chk_len (chkS_get rs k hk h0).2).1)
  have hm : rM rs = encL (rts rs) := by
    unfold rM encM
    rw [if_pos h, if_pos (rts_ok rs).2, if_neg (by omega)]
  rw [hm]
  constructor
  · intro hp
    cases rs with
    | nil => simp at hp
    | cons r rs =>
      show 0 < (encL (tObj (rby r) :: rts rs)).length
      rw [encL, tObj, T.enc]
      have : 0 < (tagF 128).length := by decide
      simp only [List.length_append]
      omega
  · intro hz
    rw [List.length_eq_zero_iff.1 hz]
    rfl
end Go.Proofs.YtkjcafhaenkpbaaDoor
