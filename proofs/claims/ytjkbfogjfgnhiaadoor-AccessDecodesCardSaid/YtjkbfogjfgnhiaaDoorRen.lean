/-
  The walk of the reference's Encode.
-/
import Derived.Test.YtjkbfogjfgnhiaaDoorLtr
import Derived.Deep.AppendLies
import Derived.Deep.RegionLaw
namespace Go.Proofs.YtjkbfogjfgnhiaaDoor
set_option linter.unusedVariables false
set_option linter.unusedSimpArgs false
open Go.RowKit

theorem SL.rd2 {w : World} {B : Nat} {A : Option Addr} {c : Nat} {m : List UInt8} {n : Nat} (h : SL w B (.slice A n c) m) (hp : 0 < m.length) : ∃ b o, A = some ⟨b, o, none⟩ ∧ b < B ∧ True := by
  obtain ⟨A', c', hv, _, _, h3⟩ := h
  obtain ⟨rfl, _, rfl⟩ := (by simpa using hv : A = A' ∧ n = m.length ∧ c = c')
  obtain ⟨b, o, hA, hb, _⟩ := h3 hp
  exact ⟨b, o, hA, hb, trivial⟩

theorem step_appS {ops : Array Oper} {o : Oper} {a : Act} {W : World} {K : Act → World → Prop} {Q : Exit → Act → World → Prop} {E : Prop} (hgd : o.guard = none) (s x : Operand)
    (ho : o.op = .call { callee := .builtin .append, args := #[s, x], argTypes := #[42, 42] }) (w : World) (base : Nat) (v : Value) (l m : List UInt8) (A : Option Addr) (c : Nat)
    (hs : a.eval s = v) (hx : a.eval x = .slice A m.length c) (hW : Below w.heap.size w W) (hown : OB w base v l)
    (hm : 0 < m.length → ∃ b o, A = some ⟨b, o, none⟩ ∧ ∀ k, k < m.length → W.cell? ⟨b, o + k, none⟩ = some (.int .u8 ((m.getD k 0).toNat : Int)))
    (hlen : l.length + m.length ≤ 100000000) (hbase : base ≤ w.heap.size)
    (h : ∀ v' w', OB w' base v' (l ++ m) → Below base w w' → K (a.put o.dst v') w') :
    if Region.wanted o (yielded ops a.tmps) = true then Oper.wp Tryd.prog o a W K Q else E := by
  have hw : Region.wanted o (yielded ops a.tmps) = true := by simp [Region.wanted, hgd]
  rw [if_pos hw]
  exact wp_appS s x ho w base v l m A c hs hx hW hown hm hlen hbase h

/-- One object appended (it has just been laid into a block of its own, number B). -/
theorem step_appT {ops : Array Oper} {o : Oper} {a : Act} {W : World} {K : Act → World → Prop} {Q : Exit → Act → World → Prop} {E : Prop} (hgd : o.guard = none) (s x : Operand)
    (ho : o.op = .call { callee := .builtin .append, args := #[s, x], argTypes := #[67, 67] }) (base : Nat) (v : Value) (ls : List (List UInt8)) (u : Value) (l : List UInt8) (B : Nat)
    (hs : a.eval s = v) (hx : a.eval x = .slice (some ⟨B, 0, none⟩) 1 1) (hown : OT W base v ls)
    (hu : SL W W.heap.size u l) (hne : 0 < l.length → u.ownBlock ≠ v.ownBlock) (hB : W.heap[B]? = some (.cells #[.int .i64 128, u, .slice none 0 0] 70 (0, 0)))
    (hlen : ls.length ≤ 1000) (hbase : base ≤ W.heap.size)
    (h : ∀ v' w', OT w' base v' (ls ++ [l]) → Below base W w' → K (a.put o.dst v') w') : if Region.wanted o (yielded ops a.tmps) = true then Oper.wp Tryd.prog o a W K Q else E := by
  obtain ⟨i0, hi0, hz0, hz1, hz2⟩ := info_parts info70
  obtain ⟨vs, h1, h2, h4, h3⟩ := hown
  have hu1 : u.oneCell' = true := by obtain ⟨A, c, rfl, _⟩ := hu; rfl
  refine step_append_lies W hgd s x 67 ho base 70 i0 (.agg #[.int .i64 0, .slice none 0 0, .slice none 0 0]) 3 56 Tryd.underlying67 hi0 hz0 hz1 hz2 rfl (by omega) v ls.length (vs.flatMap trow) hs h1 ⟨B, 0, none⟩ 1 1 (trow u) hx rfl
    (World.news_of_block (cs := #[.int .i64 128, u, .slice none 0 0]) hB) (by intro y hy; simp [trow] at hy; rcases hy with rfl | rfl | rfl <;> first | exact hu1 | rfl) (by omega) (by simp only [maxLen]; omega) (by omega) hbase W.heap.size rfl fun g cap w' k1 k2 k3 k4 => ?_
  have hnew : ∀ {u l}, SL W W.heap.size u l → (0 < l.length → u.ownBlock ≠ v.ownBlock) → SL w' w'.heap.size u l ∧ (0 < l.length → u.ownBlock ≠ some g) := fun {u l} hu hne => by
    refine ⟨hu.grown hne k2, fun hp e => ?_⟩
    rcases k3 with k3 | k3
    · exact hne hp (e.trans k3.symm)
    · obtain ⟨A, c, rfl, _, _, hr⟩ := hu
      obtain ⟨b, o, rfl, hb, _⟩ := hr hp
      simp only [Value.ownBlock, Option.some.injEq] at e
      omega
  refine h _ w' ⟨vs ++ [u], ?_, by simp [h2], ?_, fun k hk => ?_⟩ ((Below.refl _ _).grown k2 hbase (fun k hk => (h1.lt k hk).1))
  · rw [List.flatMap_append, List.length_append]
    simpa using k1
  · intro y hy
    rcases List.mem_append.1 hy with hy | hy
    · exact h4 y hy
    · simp at hy; subst hy; exact hu1
  · have hl : (ls ++ [l]).length = ls.length + 1 := by simp
    rcases Nat.lt_or_ge k ls.length with e | e
    · have e1 : (vs ++ [u]).getD k (.slice none 0 0) = vs.getD k (.slice none 0 0) := by simp [List.getD, List.getElem?_append, h2, e]
      have e2 : (ls ++ [l]).getD k [] = ls.getD k [] := by simp [List.getD, List.getElem?_append, e]
      rw [e1, e2]
      exact hnew (h3 k e).1 (h3 k e).2
    · obtain rfl : k = ls.length := by omega
      have e1 : (vs ++ [u]).getD ls.length (.slice none 0 0) = u := by simp [List.getD, ← h2]
      have e2 : (ls ++ [l]).getD ls.length [] = l := by simp [List.getD]
      rw [e1, e2]
      exact hnew hu hne


set_option maxRecDepth 100000 in
set_option maxHeartbeats 6400000 in
theorem rencr_any (rs : List Rl) (v : Value) (w : World) (hk : RL w w.heap.size v rs) (hc : ∀ (k : Nat) (h : k < rs.length), rs[k].cond.cnt ≤ 400) :
    Calls Tryd.prog 30 #[v] w (EnrP rs w) := by
  have HV := Lib.hid (rchr_any rs v w hk hc)
  obtain ⟨A, cap, rfl, h1, h2, h3⟩ := id hk
  unfold maxLen at h2
  have HK := Lib.hid hk
  clear hk hc
  by_cases h0 : chkR rs = 0
  · have hs0 : chkS rs = 0 := by
      unfold chkR at h0
      by_cases h8 : 8 < rs.length
      · rw [if_pos h8] at h0; omega
      · rw [if_neg h8] at h0; exact h0
    have h8 : rs.length ≤ 8 := by
      unfold chkR at h0
      by_cases h8 : 8 < rs.length
      · rw [if_pos h8] at h0; omega
      · omega
    have HG := Lib.hid fun k hk => chkS_get rs k hk hs0
    have HRE : Hid (rE rs = encE (rts rs)) := if_pos h0
    have HRM : Hid (rM rs = encM (rts rs)) := if_pos h0
    have HL : Hid ((encL (rts rs)).length ≤ 100000) := by
      show _ ≤ _
      have := rts_len rs (fun k hk => (chk_len (HG.out k hk).2).1)
      omega
    rw [h0] at HV
    clear h0 hs0
    go_enter Tryd.func30, Tryd.ntmps30
    go_wp2_with fail
    refine HV.out.mono ?_
    rintro e w1 ⟨rfl, hb1⟩
    have HB1 := Lib.hid hb1
    clear hb1
    go_wp2_with fail
    go_loopw [5, 6] (fun q i wr => ∃ (k : Nat), k ≤ rs.length ∧ i = .int .i64 k ∧ Hid (OT wr w.heap.size q ((rs.take k).map rby)) ∧ Hid (Below w.heap.size w wr)) (fun _ i _ => rs.length - (intOf i).toNat)
    case atStart => exact ⟨0, Nat.zero_le _, rfl, by rw [List.take_zero]; exact OT.nil _ _, HB1⟩
    case round =>
      obtain ⟨k, hkl, rfl, HO, HB⟩ := hrel
      by_cases hlt : k < rs.length
      · obtain ⟨b1, o1, rfl, hb1, hts⟩ := h3.out (by omega)
        have hra := (hts k hlt).keep hb1 HB.out.size (fun p hp => HB.out.cell hp)
        have hg := HG.out k hlt
        have htk : (rs.take (k + 1)).map rby = (rs.take k).map rby ++ [rby rs[k]] := by
          rw [List.take_succ_eq_append_getElem hlt, List.map_append]; rfl
        obtain ⟨r, hr⟩ : ∃ r, r = rs[k] := ⟨_, rfl⟩
        rw [← hr] at hra hg htk
        clear hts hr
        obtain ⟨ops, c⟩ := r
        obtain ⟨g0, hca⟩ := hra
        obtain ⟨A2, c2, g1, g2, g3, hu⟩ := hca.cells
        simp only at g0 g1 g2 g3 hu hg
        obtain ⟨hg1, hg2⟩ := hg
        have hops : 1 ≤ ops ∧ ops ≤ 255 := by unfold opsB at hg1; simpa using hg1
        obtain ⟨hop1, hop2⟩ := hops
        have hcl := chk_len hg2
        have hcc := Cn.enc_cnt c
        have hok := chk_ok hg2
        have hsb := HB.out.size
        obtain ⟨D, hD⟩ : ∃ D : Nat, ops = (D : Int) := ⟨ops.toNat, by omega⟩
        subst hD
        have hba := alloc_below wr (Obj.cells #[Value.int IntKind.u8 (D : Int)] 5)
        have HBA := Lib.hid hba
        have HBD := Lib.hid ((Below.refl wr.heap.size wr).drew)
        have HV : Hid (∀ W, Below wr.heap.size wr W → Calls Tryd.prog 55 #[.agg #[.int .i64 c.op, .int .i64 c.n, .slice A2 c.kids.length c2]] W (BytP c.enc W)) := fun W hW => byt_any (c.dep + 1) c (by omega) (.slice A2 c.kids.length c2) W hok (by omega) (hu.on hW)
        unfold BytP at HV
        have HTK := Lib.hid htk
        obtain ⟨A5, c5, hq5⟩ := HO.out.value
        rw [show ((rs.take k).map rby).length = k by simp; omega] at hq5
        subst hq5
        have i1 : (0 : Int) ≤ (k : Int) := by omega
        have i2 : (k : Int) < (rs.length : Int) := by omega
        have hbb : b1 < wr.heap.size := by omega
        have j1 : 0 ≤ (D : Int) := by omega
        have j2 : (D : Int) ≤ 255 := by omega
        have HSF : Hid (∀ W, Below wr.heap.size wr W → W.cell? ⟨b1, o1 + k * 4, none⟩ = some (.int .i64 (D : Int)) ∧ W.cell? ⟨b1, o1 + k * 4 + 1, none⟩ = some (.int .i64 c.op) ∧ W.cell? ⟨b1, o1 + k * 4 + 1 + 1, none⟩ = some (.int .i64 c.n) ∧ W.cell? ⟨b1, o1 + k * 4 + 1 + 2, none⟩ = some (.slice A2 c.kids.length c2)) := fun W hW => ⟨(hW.cell (p := ⟨b1, o1 + k * 4, none⟩) hbb).trans g0, (hW.cell (p := ⟨b1, o1 + k * 4 + 1, none⟩) hbb).trans g1, (hW.cell (p := ⟨b1, o1 + k * 4 + 1 + 1, none⟩) hbb).trans g2, (hW.cell (p := ⟨b1, o1 + k * 4 + 1 + 2, none⟩) hbb).trans g3⟩
        have HSF0 : Hid (∀ W, Below w.heap.size w W → W.cell? ⟨b1, o1 + k * 4, none⟩ = some (.int .i64 (D : Int)) ∧ W.cell? ⟨b1, o1 + k * 4 + 1, none⟩ = some (.int .i64 c.op) ∧ W.cell? ⟨b1, o1 + k * 4 + 1 + 1, none⟩ = some (.int .i64 c.n) ∧ W.cell? ⟨b1, o1 + k * 4 + 1 + 2, none⟩ = some (.slice A2 c.kids.length c2)) := fun W hW => ⟨((hW.cell (p := ⟨b1, o1 + k * 4, none⟩) hb1).trans (HB.out.cell (p := ⟨b1, o1 + k * 4, none⟩) hb1).symm).trans g0, ((hW.cell (p := ⟨b1, o1 + k * 4 + 1, none⟩) hb1).trans (HB.out.cell (p := ⟨b1, o1 + k * 4 + 1, none⟩) hb1).symm).trans g1, ((hW.cell (p := ⟨b1, o1 + k * 4 + 1 + 1, none⟩) hb1).trans (HB.out.cell (p := ⟨b1, o1 + k * 4 + 1 + 1, none⟩) hb1).symm).trans g2, ((hW.cell (p := ⟨b1, o1 + k * 4 + 1 + 2, none⟩) hb1).trans (HB.out.cell (p := ⟨b1, o1 + k * 4 + 1 + 2, none⟩) hb1).symm).trans g3⟩
        have hn1 := heap_alloc_new wr (Obj.cells #[Value.int IntKind.u8 (D : Int)] 5)
        have HN1 := Lib.hid hn1
        have HL1 := Lib.hid (show wr.heap.size < (wr.alloc (Obj.cells #[Value.int IntKind.u8 (D : Int)] 5)).drew.heap.size by show wr.heap.size < (wr.alloc (Obj.cells #[Value.int IntKind.u8 (D : Int)] 5)).heap.size; rw [alloc_size]; omega)
        have HOBF : Hid (∀ (W : World) (B : Nat), wr.heap.size ≤ B → W.heap[B]? = some (Obj.cells #[Value.int IntKind.u8 (D : Int)] 5) → OB W wr.heap.size (.slice (some ⟨B, 0, none⟩) 1 1) [UInt8.ofNat D]) := fun W B hB hc => OB.of_cells (w := W) (base := wr.heap.size) (g := B) (n := 1) (l := [UInt8.ofNat D]) hB rfl (by unfold maxLen; omega) (by rw [hc]; simp [bv]; omega)
        have w9 : IntKind.u8.wrap (D : Int) = (D : Int) := by rw [IntWalk.u8_in _ (by omega)]
        obtain ⟨x, hx⟩ : ∃ x, x = c.enc := ⟨_, rfl⟩
        rw [← hx] at HV
        obtain ⟨m8, hm8⟩ : ∃ m, m = [UInt8.ofNat D] ++ x := ⟨_, rfl⟩
        have HM8 := Lib.hid hm8
        have HMY : Hid (m8 = rby ⟨(D : Int), c⟩) := by show _ = _; rw [hm8, hx]; rfl
        have HNEV : Hid (∀ (W : World) (A : Option Addr) (cc : Nat), OB W wr.heap.size (.slice A m8.length cc) m8 → 0 < m8.length → (Value.slice A m8.length cc).ownBlock ≠ (Value.slice A5 k c5).ownBlock) := fun W A cc hob hp e => by
          obtain ⟨bb, oo, rfl, hlb, _⟩ := hob.sl.rd2 hp
          have h1 := (HO.out.ltB bb e.symm).2
          have h2 := (hob.ltB bb rfl).1
          omega
        have HLX := Lib.hid (show ([UInt8.ofNat D]).length + x.length ≤ 100000000 by rw [hx]; simp; omega)
        have HWB := Lib.hid HB.out.size
        have hlk : ((rs.take k).map rby).length ≤ 1000 := by simp; omega
        have HLK := Lib.hid hlk
        clear hca hu htk hba hn1 hx hm8 hlk
        go_wp2_with fail
        go_region_held3 (fun w' => w'.cell? ⟨b1, o1 + k * 4, none⟩ = some (.int .i64 (D : Int)) ∧ w'.cell? ⟨b1, o1 + k * 4 + 1, none⟩ = some (.int .i64 c.op) ∧ w'.cell? ⟨b1, o1 + k * 4 + 1 + 1, none⟩ = some (.int .i64 c.n) ∧ w'.cell? ⟨b1, o1 + k * 4 + 1 + 2, none⟩ = some (.slice A2 c.kids.length c2))
          (first
            | (go_keep; done)
            | exact HSF0.out _ hb10
            | exact HSF.out _ HB8.out
            | exact HSF.out _ hb8'
            | exact HSF.out _ hbx0
            | exact HSF.out _ (hbx0.trans ((alloc_below _ _).mono hbx0.size)))
          (first
            | (go_at_call 55; (with_reducible refine (HV.out _ HBA.out.drew).mono ?_); rintro e wx ⟨A7, c7, rfl, hsl, hbx⟩; have hbx0 := HBA.out.drew.trans (hbx.mono HBA.out.drew.size); have hobx := HOBF.out wx wr.heap.size (Nat.le_refl _) ((hbx.block wr.heap.size HL1.out).trans HN1.out); clear hbx)
            | (go_at_call 55; (with_reducible refine (HV.out _ HBD.out).mono ?_); rintro e wx ⟨A7, c7, rfl, hsl, hbx⟩; have hbx0 := HBD.out.trans (hbx.mono HBD.out.size); clear hbx)
            | (refine step_appS (by rfl) _ _ (by rfl) wx wr.heap.size _ [UInt8.ofNat D] x A7 c7 (by rfl) (by rfl) (Below.refl _ _) hobx (hsl.put (Below.refl _ wx)) HLX.out hbx0.size ?_; intro v8 w8 hob8 hb8; have hb8' := hbx0.trans hb8; clear hb8; rw [← HM8.out] at hob8; obtain ⟨A8, c8, rfl⟩ := hob8.value; have HO8 := Lib.hid ((HO.out.later hb8').later (alloc_below w8 (Obj.cells #[Value.int IntKind.i64 128, Value.slice A8 m8.length c8, Value.slice none 0 0] 70))); have HS8 := Lib.hid (hob8.sl.on (alloc_below w8 (Obj.cells #[Value.int IntKind.i64 128, Value.slice A8 m8.length c8, Value.slice none 0 0] 70))); have HNE8 := Lib.hid (HNEV.out w8 A8 c8 hob8); have HB8 := Lib.hid (hb8'.trans ((alloc_below w8 (Obj.cells #[Value.int IntKind.i64 128, Value.slice A8 m8.length c8, Value.slice none 0 0] 70)).mono hb8'.size)); have HZ8 := Lib.hid (Nat.le_trans HWB.out HB8.out.size); have hn8 := heap_alloc_new w8 (Obj.cells #[Value.int IntKind.i64 128, Value.slice A8 m8.length c8, Value.slice none 0 0] 70); clear hob8)
            | (refine step_appS (by rfl) _ _ (by rfl) (wx.alloc (Obj.cells #[Value.int IntKind.u8 (D : Int)] 5)) wr.heap.size _ [UInt8.ofNat D] x A7 c7 (by rfl) (by rfl) (Below.refl _ _) (HOBF.out _ wx.heap.size hbx0.size (heap_alloc_new _ _)) (hsl.put (alloc_below _ _)) HLX.out (Nat.le_trans hbx0.size (alloc_below wx _).size) ?_; intro v8 w8 hob8 hb8; have hb8' := (hbx0.trans ((alloc_below wx _).mono hbx0.size)).trans hb8; clear hb8; rw [← HM8.out] at hob8; obtain ⟨A8, c8, rfl⟩ := hob8.value; have HO8 := Lib.hid ((HO.out.later hb8').later (alloc_below w8 (Obj.cells #[Value.int IntKind.i64 128, Value.slice A8 m8.length c8, Value.slice none 0 0] 70))); have HS8 := Lib.hid (hob8.sl.on (alloc_below w8 (Obj.cells #[Value.int IntKind.i64 128, Value.slice A8 m8.length c8, Value.slice none 0 0] 70))); have HNE8 := Lib.hid (HNEV.out w8 A8 c8 hob8); have HB8 := Lib.hid (hb8'.trans ((alloc_below w8 (Obj.cells #[Value.int IntKind.i64 128, Value.slice A8 m8.length c8, Value.slice none 0 0] 70)).mono hb8'.size)); have HZ8 := Lib.hid (Nat.le_trans HWB.out HB8.out.size); have hn8 := heap_alloc_new w8 (Obj.cells #[Value.int IntKind.i64 128, Value.slice A8 m8.length c8, Value.slice none 0 0] 70); clear hob8)
            | (refine step_appT (by rfl) _ _ (by rfl) w.heap.size _ ((rs.take k).map rby) _ m8 w8.heap.size (by rfl) (by rfl) HO8.out HS8.out HNE8.out hn8 HLK.out HZ8.out ?_; intro v9 w9' hot9 hb9; have hb9' := HB.out.trans (HB8.out.mono HWB.out); have hb10 := hb9'.trans hb9))
        all_goals
          have HOT9 := Lib.hid hot9
          have HB10 := Lib.hid hb10
          clear hot9 hb10
          go_wp2_with fail
          go_roundw
          case rel => exact ⟨k + 1, by omega, by go_num, by rw [HTK.out, ← HMY.out]; exact HOT9.out, HB10⟩
          case measure => simp [intOf]; omega
      · have hot := HO.out
        rw [show k = rs.length by omega, List.take_length] at hot
        have htl := hot.tl
        have e : (rs.map rby).map tObj = rts rs := by rw [List.map_map]; rfl
        rw [e] at htl
        have HE := Lib.hid (rencode_any (rts rs) _ wr htl)
        clear htl hot e
        go_wp2_with fail
        refine HE.out.mono ?_
        rintro e w5 ⟨v5, rfl, hsl5, hb5⟩
        have HB5 := Lib.hid (HB.out.trans (hb5.mono HB.out.size))
        obtain ⟨A6, c6, rfl, _⟩ := id hsl5
        have HSL5 := Lib.hid hsl5
        clear hsl5 hb5
        go_wp2_with fail
        go_ret2
        exact ⟨.slice A6 (encM (rts rs)).length c6, by rw [HRE.out]; rfl, by rw [HRM.out]; exact HSL5.out, HB5.out⟩
  · have HRE : Hid (rE rs = chkR rs) := if_neg h0
    have HRM : Hid (rM rs = []) := if_neg h0
    generalize chkR rs = E at *
    have he1 : (E != 0) = true := by simpa using h0
    have he2 : (E == 0) = false := by simpa using h0
    have he3 : decide (E = 0) = false := decide_eq_false h0
    go_enter Tryd.func30, Tryd.ntmps30
    go_wp2_with fail
    refine HV.out.mono ?_
    rintro e w1 ⟨rfl, hb1⟩
    go_wp2_with fail
    go_ret2
    exact ⟨.slice none 0 0, by rw [HRE.out]; rfl, by rw [HRM.out]; exact SL.nil _ _ _ _ (Nat.zero_le _), hb1⟩
end Go.Proofs.YtjkbfogjfgnhiaaDoor
