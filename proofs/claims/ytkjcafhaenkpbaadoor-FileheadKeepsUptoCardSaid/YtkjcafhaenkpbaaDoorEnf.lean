/-
  Encode of headers, of the program, for any valid header.
-/
import Derived.Test.YtkjcafhaenkpbaaDoorMet
import Derived.Laws.EntriesVeiled
namespace Go.Proofs.YtkjcafhaenkpbaaDoor
set_option linter.unusedVariables false
set_option linter.unusedSimpArgs false
open Go.RowKit

/-- What a valid header is made of. -/
theorem chkF_facts (f : Fl) (h : chkF f = 0) : (1 ≤ f.kind ∧ f.kind ≤ 5) ∧ (1 ≤ f.id ∧ f.id ≤ 65534) ∧ f.name.length ≤ 16 ∧ (0 ≤ f.short ∧ f.short ≤ 30) ∧ sizE f = 0 ∧ (1 ≤ f.state ∧ f.state ≤ 3) ∧ chkR f.rules = 0 := by
  have hcf : chkF f = if f.kind < 1 ∨ 5 < f.kind then 1 else if f.id < 1 ∨ 65534 < f.id ∨ f.id = 16383 then 2 else if 16 < f.name.length then 3 else if 0 < f.name.length ∧ ¬ f.kind = 1 then 4
    else if f.short < 0 ∨ 30 < f.short then 2 else if ¬ f.short = 0 ∧ f.kind = 1 then 4 else if ¬ sizE f = 0 then sizE f else if f.state < 1 ∨ 3 < f.state then 2 else chkR f.rules := rfl
  rw [hcf] at h
  by_cases h1 : f.kind < 1 ∨ 5 < f.kind
  · rw [if_pos h1] at h; omega
  rw [if_neg h1] at h
  by_cases h2 : f.id < 1 ∨ 65534 < f.id ∨ f.id = 16383
  · rw [if_pos h2] at h; omega
  rw [if_neg h2] at h
  by_cases h3 : 16 < f.name.length
  · rw [if_pos h3] at h; omega
  rw [if_neg h3] at h
  by_cases h4 : 0 < f.name.length ∧ ¬ f.kind = 1
  · rw [if_pos h4] at h; omega
  rw [if_neg h4] at h
  by_cases h5 : f.short < 0 ∨ 30 < f.short
  · rw [if_pos h5] at h; omega
  rw [if_neg h5] at h
  by_cases h6 : ¬ f.short = 0 ∧ f.kind = 1
  · rw [if_pos h6] at h; omega
  rw [if_neg h6] at h
  by_cases h7 : ¬ sizE f = 0
  · rw [if_pos h7] at h; omega
  rw [if_neg h7] at h
  by_cases h8 : f.state < 1 ∨ 3 < f.state
  · rw [if_pos h8] at h; omega
  rw [if_neg h8] at h
  refine ⟨⟨by omega, by omega⟩, ⟨by omega, by omega⟩, by omega, ⟨by omega, by omega⟩, by omega, ⟨by omega, by omega⟩, h⟩
theorem sizE_facts (f : Fl) (h : sizE f = 0) : (f.kind = 2 → 1 ≤ f.size ∧ f.size ≤ 1024) ∧ (¬ f.kind = 2 → f.size = 0) ∧ (recK f.kind = true → (1 ≤ f.len ∧ f.len ≤ 254) ∧ 1 ≤ f.recs ∧ f.recs ≤ 254) ∧ (recK f.kind = false → f.len = 0 ∧ f.recs = 0) ∧ f.len * f.recs ≤ 1024 := by
  have hcf : sizE f = if numE f.size (decide (f.kind = 2)) 1024 ≠ 0 then numE f.size (decide (f.kind = 2)) 1024
    else if numE f.len (recK f.kind) 254 ≠ 0 then numE f.len (recK f.kind) 254
    else if numE f.recs (recK f.kind) 254 ≠ 0 then numE f.recs (recK f.kind) 254
    else if 1024 < f.len * f.recs then 3 else 0 := rfl
  rw [hcf] at h
  by_cases h1 : numE f.size (decide (f.kind = 2)) 1024 ≠ 0
  · rw [if_pos h1] at h; exact absurd h h1
  rw [if_neg h1] at h
  by_cases h2 : numE f.len (recK f.kind) 254 ≠ 0
  · rw [if_pos h2] at h; exact absurd h h2
  rw [if_neg h2] at h
  by_cases h3 : numE f.recs (recK f.kind) 254 ≠ 0
  · rw [if_pos h3] at h; exact absurd h h3
  rw [if_neg h3] at h
  by_cases h4 : 1024 < f.len * f.recs
  · rw [if_pos h4] at h; omega
  have g1 : numE f.size (decide (f.kind = 2)) 1024 = 0 := Classical.not_not.1 h1
  have g2 : numE f.len (recK f.kind) 254 = 0 := Classical.not_not.1 h2
  have g3 : numE f.recs (recK f.kind) 254 = 0 := Classical.not_not.1 h3
  refine ⟨fun hk => ?_, fun hk => ?_, fun hr => ?_, fun hr => ?_, by omega⟩
  · rw [decide_eq_true hk, numE_yes] at g1; split at g1 <;> omega
  · rw [decide_eq_false hk, numE_no] at g1; split at g1 <;> omega
  · rw [hr, numE_yes] at g2 g3; split at g2 <;> split at g3 <;> omega
  · rw [hr, numE_no] at g2 g3; split at g2 <;> split at g3 <;> omega
theorem chkR_cnt (rs : List Rl) (h : chkR rs = 0) : rs.length ≤ 8 ∧ ∀ (k : Nat) (h : k < rs.length), rs[k].cond.cnt ≤ 16 := by
  unfold chkR at h
  by_cases h8 : 8 < rs.length
  · rw [if_pos h8] at h; omega
  · rw [if_neg h8] at h
    exact ⟨by omega, fun k hk => (chk_len (chkS_get rs k hk h).2).1⟩
theorem rM_len (rs : List Rl) (h : chkR rs = 0) : (rM rs).length ≤ 480 := by
  obtain ⟨h1, h2⟩ := chkR_cnt rs h
  have h3 := rts_len rs h2
  unfold rM encM
  rw [if_pos h]
  split
  · split
    · simp
    · omega
  · simp
theorem pts_val (f : Fl) (h : chkF f = 0) : valN (pts f) ≤ 520 := by
  obtain ⟨_, _, hn, _, _, _, hr⟩ := chkF_facts f h
  have h1 := (kindB_len f.kind.toNat f.len.toNat f.recs.toNat).2
  have h2 := rM_len f.rules hr
  have h3 : (putL f.id.toNat 2).length = 2 := putL_length ..
  have h4 : (if f.kind = 2 then putL f.size.toNat 2 else []).length ≤ 2 := by split <;> simp [putL_length]
  have h5 : (if f.short = 0 then [] else [UInt8.ofNat f.short.toNat]).length ≤ 1 := by split <;> simp
  unfold pts
  simp only [valN, List.length_cons, List.length_nil]
  omega
theorem fT_len (f : Fl) (h : chkF f = 0) : (encL [fT f]).length ≤ 100000 := by
  have h1 := encL_g (outP (pts f) 7)
  have h2 := outP_len (pts f) 7
  have h3 := valN_out (pts f) 7
  have h4 := pts_val f h
  have h5 := tagF_length 98
  have h6 := lenF_length (encL ((outP (pts f) 7).map gObj)).length
  unfold fT
  rw [encL, T.enc]
  simp only [List.length_append, encL, List.append_nil, List.length_nil, List.nil_append]
  omega

set_option maxRecDepth 100000 in
set_option maxHeartbeats 25600000 in
theorem enc_loop (I K S L R ST : Nat) (size : Int) (name : List UInt8) (rules : List Rl) (A1 : Option Addr) (c1 : Nat) (A2 : Option Addr) (c2 : Nat) (w : World)
    (hn1 : SL w w.heap.size (.slice A1 name.length c1) name) (hk1 : RL w w.heap.size (.slice A2 rules.length c2) rules) (hT : Tb w) (hc : ∀ (k : Nat) (h : k < rules.length), rules[k].cond.cnt ≤ 16)
    (hI : I < 65536) (hK : K < 256) (hL : L < 256) (hR : R < 256) (hS : S < 256) (hST : ST < 256) (hn16 : name.length ≤ 16)
    (L3 : List UInt8) (hm3 : ∀ W : World, Calls Tryd.prog 55 #[.agg #[.int .i64 (I : Int), .int .i64 (K : Int), .slice A1 name.length c1, .int .i64 (S : Int), .int .i64 size, .int .i64 (L : Int), .int .i64 (R : Int), .int .i64 (ST : Int), .slice A2 rules.length c2]] W (MetP L3 W))
    (L4 : List UInt8) (hm4 : ∀ W : World, Calls Tryd.prog 56 #[.agg #[.int .i64 (I : Int), .int .i64 (K : Int), .slice A1 name.length c1, .int .i64 (S : Int), .int .i64 size, .int .i64 (L : Int), .int .i64 (R : Int), .int .i64 (ST : Int), .slice A2 rules.length c2]] W (MetP L4 W)) (h34 : L3.length ≤ 2 ∧ L4.length ≤ 1)
    (P : List (Int × List UInt8)) (hP : P = [(130, kindB K L R), (131, putL I 2), (132, name), (128, L3), (136, L4), (138, [UInt8.ofNat ST]), (134, rM rules)])
    (hPT : (encL [T.mk 98 [] ((outP P 7).map gObj)]).length ≤ 100000)
    (HCK : ∀ W, Below w.heap.size w W → Calls Tryd.prog 11 #[.agg #[.int .i64 (I : Int), .int .i64 (K : Int), .slice A1 name.length c1, .int .i64 (S : Int), .int .i64 size, .int .i64 (L : Int), .int .i64 (R : Int), .int .i64 (ST : Int), .slice A2 rules.length c2]] W fun e w' => e = .returned (.int .i64 0) ∧ Below W.heap.size W w') :
    Calls Tryd.prog 14 #[.agg #[.int .i64 (I : Int), .int .i64 (K : Int), .slice A1 name.length c1, .int .i64 (S : Int), .int .i64 size, .int .i64 (L : Int), .int .i64 (R : Int), .int .i64 (ST : Int), .slice A2 rules.length c2]] w fun e w' => ∃ v', e = .returned (.tuple #[v', .int .i64 (encE [T.mk 98 [] ((outP P 7).map gObj)])]) ∧ FS w' w.heap.size v' (encM [T.mk 98 [] ((outP P 7).map gObj)]) ∧ Below w.heap.size w w' := by
  obtain ⟨EE, hEE⟩ : ∃ z, z = encE [T.mk 98 [] ((outP P 7).map gObj)] := ⟨_, rfl⟩
  obtain ⟨EM, hEM⟩ : ∃ z, z = encM [T.mk 98 [] ((outP P 7).map gObj)] := ⟨_, rfl⟩
  rw [← hEE, ← hEM]
  have HEE := Lib.hid hEE
  have HEM2 := Lib.hid hEM
  clear hEE hEM
  have HM0 : Hid (∀ W : World, Calls Tryd.prog 52 #[.agg #[.int .i64 (I : Int), .int .i64 (K : Int), .slice A1 name.length c1, .int .i64 (S : Int), .int .i64 size, .int .i64 (L : Int), .int .i64 (R : Int), .int .i64 (ST : Int), .slice A2 rules.length c2]] W (MetP (kindB K L R) W)) := fun W => m_kind K L R _ _ _ _ A1 c1 _ A2 c2 _ W hK hL hR
  have HM1 : Hid (∀ W : World, Calls Tryd.prog 53 #[.agg #[.int .i64 (I : Int), .int .i64 (K : Int), .slice A1 name.length c1, .int .i64 (S : Int), .int .i64 size, .int .i64 (L : Int), .int .i64 (R : Int), .int .i64 (ST : Int), .slice A2 rules.length c2]] W (MetP (putL I 2) W)) := fun W => m_id I _ _ _ _ _ _ A1 c1 _ A2 c2 _ W hI
  have HM2 : Hid (∀ W : World, Calls Tryd.prog 54 #[.agg #[.int .i64 (I : Int), .int .i64 (K : Int), .slice A1 name.length c1, .int .i64 (S : Int), .int .i64 size, .int .i64 (L : Int), .int .i64 (R : Int), .int .i64 (ST : Int), .slice A2 rules.length c2]] W fun e w' => e = .returned (.slice A1 name.length c1) ∧ Below W.heap.size W w') := fun W => m_name _ _ _ _ _ _ _ A1 c1 _ A2 c2 _ W
  have HM3 := Lib.hid hm3
  have HM4 := Lib.hid hm4
  have HM5 : Hid (∀ W : World, Calls Tryd.prog 57 #[.agg #[.int .i64 (I : Int), .int .i64 (K : Int), .slice A1 name.length c1, .int .i64 (S : Int), .int .i64 size, .int .i64 (L : Int), .int .i64 (R : Int), .int .i64 (ST : Int), .slice A2 rules.length c2]] W (MetP [UInt8.ofNat ST] W)) := fun W => m_state ST _ _ _ _ _ _ A1 c1 _ A2 c2 _ W hST
  have HM6 : Hid (∀ W : World, Below w.heap.size w W → Tb W → Calls Tryd.prog 58 #[.agg #[.int .i64 (I : Int), .int .i64 (K : Int), .slice A1 name.length c1, .int .i64 (S : Int), .int .i64 size, .int .i64 (L : Int), .int .i64 (R : Int), .int .i64 (ST : Int), .slice A2 rules.length c2]] W (MetP (rM rules) W)) := fun W hW hTW => m_rules rules _ _ _ _ _ _ _ A1 c1 _ A2 c2 W (hk1.on hW) hTW (fun k h => Nat.le_trans (hc k h) (by omega))
  have hn0 := (kindB_len K L R).1
  have hn1' : 0 < (putL I 2).length := by rw [putL_length]; omega
  have hl5 : ([UInt8.ofNat ST] : List UInt8).length = 1 := rfl
  have hn5 : 0 < ([UInt8.ofNat ST] : List UInt8).length := by rw [hl5]; omega
  have HP0 : Hid (P[0]? = some (130, kindB K L R)) := by show _ = _; rw [hP]; rfl
  have HP1 : Hid (P[1]? = some (131, putL I 2)) := by show _ = _; rw [hP]; rfl
  have HP2 : Hid (P[2]? = some (132, name)) := by show _ = _; rw [hP]; rfl
  have HP3 : Hid (P[3]? = some (128, L3)) := by show _ = _; rw [hP]; rfl
  have HP4 : Hid (P[4]? = some (136, L4)) := by show _ = _; rw [hP]; rfl
  have HP5 : Hid (P[5]? = some (138, [UInt8.ofNat ST])) := by show _ = _; rw [hP]; rfl
  have HP6 : Hid (P[6]? = some (134, rM rules)) := by show _ = _; rw [hP]; rfl
  have HPL := Lib.hid fun k => outP_len P k
  have HPT := Lib.hid hPT
  generalize hQ0 : kindB K L R = L0 at *
  generalize hQ1 : putL I 2 = L1 at *
  generalize hQ5 : [UInt8.ofNat ST] = L5 at *
  generalize hQ6 : rM rules = L6 at *
  clear hm3 hm4 hP hPT hQ0 hQ1 hQ5 hQ6 hl5 hI hK hL hR hS hST hc h34
  have HNM := Lib.hid hn1
  have HNA : Hid (0 < name.length → ∃ b, (Value.slice A1 name.length c1).ownBlock = some b ∧ b < w.heap.size) := fun hp => by
    obtain ⟨A, c, hv, _, _, h3⟩ := hn1
    obtain ⟨rfl, _, rfl⟩ := Value.slice.inj hv
    obtain ⟨b, o, rfl, hb, _⟩ := h3 hp
    exact ⟨b, rfl, hb⟩
  clear hn1 hk1
  have hb := alloc_below w (Obj.cells #[.int .i64 (I : Int), .int .i64 (K : Int), .slice A1 name.length c1, .int .i64 (S : Int), .int .i64 size, .int .i64 (L : Int), .int .i64 (R : Int), .int .i64 (ST : Int), .slice A2 rules.length c2] 25)
  have hn := heap_alloc_new w (Obj.cells #[.int .i64 (I : Int), .int .i64 (K : Int), .slice A1 name.length c1, .int .i64 (S : Int), .int .i64 size, .int .i64 (L : Int), .int .i64 (R : Int), .int .i64 (ST : Int), .slice A2 rules.length c2] 25)
  have hz := alloc_size w (Obj.cells #[.int .i64 (I : Int), .int .i64 (K : Int), .slice A1 name.length c1, .int .i64 (S : Int), .int .i64 size, .int .i64 (L : Int), .int .i64 (R : Int), .int .i64 (ST : Int), .slice A2 rules.length c2] 25)
  have HC := Lib.hid (HCK _ hb)
  have HT := Lib.hid (hT.on hb)
  have HB := Lib.hid hb
  have HN := Lib.hid hn
  have HZ := Lib.hid hz
  clear hb hn hz hT HCK
  go_enter Tryd.func14, Tryd.ntmps14
  go_wp2_with fail
  refine HC.out.mono ?_
  rintro e w1 ⟨rfl, hb1⟩
  have hk1 := (hb1.block w.heap.size (by rw [HZ.out]; omega)).trans HN.out
  have hs1 : w.heap.size + 1 ≤ w1.heap.size := by have := hb1.size; rw [HZ.out] at this; exact this
  have HB1 := Lib.hid (HB.out.trans (hb1.mono HB.out.size))
  have HT1 := Lib.hid (HT.out.on hb1)
  have HK1 := Lib.hid hk1
  clear hb1 hk1
  have hb2 := alloc_below w1 (Obj.cells #[.int .i64 98, .slice none 0 0, .slice none 0 0] 53)
  have hn2 := heap_alloc_new w1 (Obj.cells #[.int .i64 98, .slice none 0 0, .slice none 0 0] 53)
  have hz2 := alloc_size w1 (Obj.cells #[.int .i64 98, .slice none 0 0, .slice none 0 0] 53)
  have HPR := Lib.hid (parts_any (w1.alloc (Obj.cells #[.int .i64 98, .slice none 0 0, .slice none 0 0] 53)))
  have HB2 := Lib.hid hb2
  have HN2 := Lib.hid hn2
  have HZ2 := Lib.hid hz2
  clear hb2 hn2 hz2
  go_wp2_with fail
  refine HPR.out.mono ?_
  rintro e w3 ⟨rfl, hrow, hb3⟩
  generalize (w1.alloc (Obj.cells #[Value.int IntKind.i64 98, Value.slice none 0 0, Value.slice none 0 0] 53)) = w2 at *
  have HROW := Lib.hid hrow
  have HB3 := Lib.hid hb3
  clear hrow hb3
  have hz12a : w1.heap.size + 1 ≤ w2.heap.size := Nat.le_of_eq HZ2.out.symm
  have hz12b : w2.heap.size ≤ w1.heap.size + 1 := Nat.le_of_eq HZ2.out
  have hs23 := HB3.out.size
  have hg3 : w2.heap.size + 1 + 1 + 1 + 1 + 1 < w3.heap.size := (Array.getElem?_eq_some_iff.1 HROW.out).1
  have HBX := Lib.hid ((HB3.out.block w1.heap.size (by omega)).trans HN2.out)
  have hb13 : Below w1.heap.size w1 w3 := HB2.out.trans (HB3.out.mono (by omega))
  have HFX := Lib.hid ((hb13.block w.heap.size (by omega)).trans HK1.out)
  have HW3 := Lib.hid (HB1.out.trans (hb13.mono HB1.out.size))
  have HT3 := Lib.hid (HT1.out.on hb13)
  clear hb13
  go_wp2_with fail
  go_loopw [17] (fun i wr => ∃ (k : Nat) (v : Value), k ≤ 7 ∧ i = .int .i64 k ∧ Hid (OH wr w3.heap.size w1.heap.size v (outP P k)) ∧ Hid (wr.heap[w1.heap.size]? = some (.cells #[.int .i64 98, .slice none 0 0, v] 53 (0, 0))) ∧ Hid (Kb w1.heap.size w3 wr)) (fun i _ => 7 - (intOf i).toNat)
  case atStart => exact ⟨0, .slice none 0 0, by omega, rfl, by rw [show outP P 0 = [] by unfold outP; rfl]; exact OH.nil _ _ _, HBX, Kb.refl _ _⟩
  case round =>
    obtain ⟨k, v, hk, rfl, HO, HX, HKB⟩ := hrel
    obtain ⟨A6, c6, hv6⟩ := HO.out.value
    have hsr := HKB.out.size
    have x2 := cell_of_row _ _ 2 _ _ _ HX.out
    have x0 := cell_of_row _ _ 0 _ _ _ HX.out
    have x1 := cell_of_row _ _ 1 _ _ _ HX.out
    have hpr := (HKB.out.block (w2.heap.size + 1 + 1 + 1 + 1 + 1) hg3 (by omega)).trans HROW.out
    have hfx := (HKB.out.block w.heap.size (by omega) (by omega)).trans HFX.out
    unfold paRow at hpr
    have f0 := cell_of_row _ _ 0 _ _ _ hfx
    have f1 := cell_of_row _ _ 1 _ _ _ hfx
    have f2 := cell_of_row _ _ 2 _ _ _ hfx
    have f3 := cell_of_row _ _ 3 _ _ _ hfx
    have f4 := cell_of_row _ _ 4 _ _ _ hfx
    have f5 := cell_of_row _ _ 5 _ _ _ hfx
    have f6 := cell_of_row _ _ 6 _ _ _ hfx
    have f7 := cell_of_row _ _ 7 _ _ _ hfx
    have f8 := cell_of_row _ _ 8 _ _ _ hfx
    have hlt0 : w.heap.size < wr.heap.size := by omega
    have hlt1 : w1.heap.size < wr.heap.size := by omega
    have HBW := Lib.hid (HW3.out.trans (HKB.out.below (by omega) (by omega)))
    have hk8 : k = 0 ∨ k = 1 ∨ k = 2 ∨ k = 3 ∨ k = 4 ∨ k = 5 ∨ k = 6 ∨ k = 7 := by omega
    rcases hk8 with rfl | rfl | rfl | rfl | rfl | rfl | rfl | rfl
    · have cc0 := cell_of_row _ _ 0 _ _ _ hpr
      have cc1 := cell_of_row _ _ 1 _ _ _ hpr
      have cc2 := cell_of_row _ _ 2 _ _ _ hpr
      have cc3 := cell_of_row _ _ 3 _ _ _ hpr
      have hlm := HPL.out 0
      obtain ⟨m, hm⟩ : ∃ m, m = (outP P 0).length := ⟨_, rfl⟩
      rw [← hm] at hv6 hlm
      subst hv6
      have HMM := Lib.hid hm
      clear hm
      have hba := alloc_below wr (Obj.cells #[.int .i64 130, .slice (some ⟨w2.heap.size, 0, none⟩) 2 2, .bool true, .func (Fn.func 52) #[] #[]] 59)
      have hna := heap_alloc_new wr (Obj.cells #[.int .i64 130, .slice (some ⟨w2.heap.size, 0, none⟩) 2 2, .bool true, .func (Fn.func 52) #[] #[]] 59)
      have hza := alloc_size wr (Obj.cells #[.int .i64 130, .slice (some ⟨w2.heap.size, 0, none⟩) 2 2, .bool true, .func (Fn.func 52) #[] #[]] 59)
      have HM := Lib.hid (HM0.out (wr.alloc (Obj.cells #[.int .i64 130, .slice (some ⟨w2.heap.size, 0, none⟩) 2 2, .bool true, .func (Fn.func 52) #[] #[]] 59)))
      have HBA := Lib.hid hba
      have HNA2 := Lib.hid hna
      have HZA := Lib.hid hza
      clear hba hna hza hpr hfx
      have HPO : Hid (0 < L0.length) := hn0
      have hpi : (0 : Int) < (L0.length : Int) := by have := HPO.out; omega
      have hpd : decide ((0 : Int) < (L0.length : Int)) = true := decide_eq_true hpi
      go_wp2_with fail
      refine HM.out.mono ?_
      rintro e w5 ⟨v5, rfl, hf5, hb5⟩
      have hf51 := hf5.1
      obtain ⟨A5, c5, rfl, _⟩ := hf51
      have hb05 := HBA.out.trans (hb5.mono HBA.out.size)
      have hs5 := hb05.size
      have hx5 := (hb05.block w1.heap.size (by omega)).trans HX.out
      have HK5 := Lib.hid (HKB.out.trans (Kb.of_below hb05))
      have HO5 := Lib.hid (HO.out.later hb05)
      have hp5 := (hb5.block wr.heap.size (by rw [HZA.out]; omega)).trans HNA2.out
      have p0 := cell_of_row _ _ 0 _ _ _ hp5
      have y2 := cell_of_row _ _ 2 _ _ _ hx5
      have hs5' := hb5.size
      rw [HZA.out] at hs5'
      have hba5 := alloc_below w5 (Obj.cells #[.int .i64 130, .slice A5 L0.length c5, .slice none 0 0] 53)
      have HO7 := Lib.hid (HO5.out.later hba5)
      have HF7 := Lib.hid ((FX.of hf5 (x := w1.heap.size) (by rw [HZA.out]; omega)).on hba5)
      have HNE := Lib.hid (show 0 < L0.length → (Value.slice A5 L0.length c5).ownBlock ≠ (Value.slice A6 m c6).ownBlock from fun hp e => by obtain ⟨bb, e1, e2⟩ := hf5.2.out hp; have e3 := (HO.out.ltB bb (e.symm.trans e1)).2; rw [HZA.out] at e2; omega)
      have HK7 := Lib.hid (HK5.out.trans (Kb.of_below hba5))
      have hx7 := (hba5.block w1.heap.size (by omega)).trans hx5
      have HX7 := Lib.hid hx7
      have hl6 : (outP P 0).length ≤ 1000 := Nat.le_trans (HPL.out 0) (by omega)
      have hlt5 : w1.heap.size < w5.heap.size := by omega
      have hlt6 : wr.heap.size < w5.heap.size := by omega
      have hb6s : w3.heap.size ≤ (w5.alloc (Obj.cells #[.int .i64 130, .slice A5 L0.length c5, .slice none 0 0] 53)).heap.size := by rw [alloc_size]; omega
      have HBS6 := Lib.hid hb6s
      have HL6 := Lib.hid hl6
      have HOY := Lib.hid (outP_yes HP0.out HPO.out)
      have HLE : Hid ((outP P 0 ++ [(130, L0)]).length = m + 1) := by show _ = _; rw [List.length_append, ← HMM.out]; rfl
      clear hx5 hx7 hb5 hb05 hp5 hba5 hl6 hb6s hf5
      go_wp2_with (at_builtin; refine wpList_appH rfl _ _ rfl w3.heap.size w1.heap.size _ (outP P 0) 130 _ L0 w5.heap.size rfl rfl HO7.out HF7.out HNE.out (heap_alloc_new _ _) HL6.out HBS6.out ?_; intro v7 w7 ho7 hb7; have hx8 := (hb7.block w1.heap.size (by omega)).trans HX7.out; have z2 := cell_of_row _ _ 2 _ _ _ hx8; have z3 := frozen_of_row _ _ 2 _ _ hx8; obtain ⟨A7, c7, hv7⟩ := ho7.value; rw [HLE.out] at hv7; subst hv7; have HX8 := Lib.hid hx8; have HO8 := Lib.hid ho7; have HB8 := Lib.hid hb7; clear hx8 ho7 hb7)
      go_roundw
      case rel => exact ⟨1, .slice A7 (m + 1) c7, by omega, by go_num, by rw [HOY.out]; exact HO8.out.set (by omega) _, row3_set2 _ _ _ _ _ _ _ HX8.out, (HK7.out.below2 HB8.out).set _ _⟩
      case measure => simp [intOf]
    · have cc0 := cell_of_row _ _ 4 _ _ _ hpr
      have cc1 := cell_of_row _ _ 5 _ _ _ hpr
      have cc2 := cell_of_row _ _ 6 _ _ _ hpr
      have cc3 := cell_of_row _ _ 7 _ _ _ hpr
      have hlm := HPL.out 1
      obtain ⟨m, hm⟩ : ∃ m, m = (outP P 1).length := ⟨_, rfl⟩
      rw [← hm] at hv6 hlm
      subst hv6
      have HMM := Lib.hid hm
      clear hm
      have hba := alloc_below wr (Obj.cells #[.int .i64 131, .slice (some ⟨w2.heap.size + 1, 0, none⟩) 1 1, .bool true, .func (Fn.func 53) #[] #[]] 59)
      have hna := heap_alloc_new wr (Obj.cells #[.int .i64 131, .slice (some ⟨w2.heap.size + 1, 0, none⟩) 1 1, .bool true, .func (Fn.func 53) #[] #[]] 59)
      have hza := alloc_size wr (Obj.cells #[.int .i64 131, .slice (some ⟨w2.heap.size + 1, 0, none⟩) 1 1, .bool true, .func (Fn.func 53) #[] #[]] 59)
      have HM := Lib.hid (HM1.out (wr.alloc (Obj.cells #[.int .i64 131, .slice (some ⟨w2.heap.size + 1, 0, none⟩) 1 1, .bool true, .func (Fn.func 53) #[] #[]] 59)))
      have HBA := Lib.hid hba
      have HNA2 := Lib.hid hna
      have HZA := Lib.hid hza
      clear hba hna hza hpr hfx
      have HPO : Hid (0 < L1.length) := hn1'
      have hpi : (0 : Int) < (L1.length : Int) := by have := HPO.out; omega
      have hpd : decide ((0 : Int) < (L1.length : Int)) = true := decide_eq_true hpi
      go_wp2_with fail
      refine HM.out.mono ?_
      rintro e w5 ⟨v5, rfl, hf5, hb5⟩
      have hf51 := hf5.1
      obtain ⟨A5, c5, rfl, _⟩ := hf51
      have hb05 := HBA.out.trans (hb5.mono HBA.out.size)
      have hs5 := hb05.size
      have hx5 := (hb05.block w1.heap.size (by omega)).trans HX.out
      have HK5 := Lib.hid (HKB.out.trans (Kb.of_below hb05))
      have HO5 := Lib.hid (HO.out.later hb05)
      have hp5 := (hb5.block wr.heap.size (by rw [HZA.out]; omega)).trans HNA2.out
      have p0 := cell_of_row _ _ 0 _ _ _ hp5
      have y2 := cell_of_row _ _ 2 _ _ _ hx5
      have hs5' := hb5.size
      rw [HZA.out] at hs5'
      have hba5 := alloc_below w5 (Obj.cells #[.int .i64 131, .slice A5 L1.length c5, .slice none 0 0] 53)
      have HO7 := Lib.hid (HO5.out.later hba5)
      have HF7 := Lib.hid ((FX.of hf5 (x := w1.heap.size) (by rw [HZA.out]; omega)).on hba5)
      have HNE := Lib.hid (show 0 < L1.length → (Value.slice A5 L1.length c5).ownBlock ≠ (Value.slice A6 m c6).ownBlock from fun hp e => by obtain ⟨bb, e1, e2⟩ := hf5.2.out hp; have e3 := (HO.out.ltB bb (e.symm.trans e1)).2; rw [HZA.out] at e2; omega)
      have HK7 := Lib.hid (HK5.out.trans (Kb.of_below hba5))
      have hx7 := (hba5.block w1.heap.size (by omega)).trans hx5
      have HX7 := Lib.hid hx7
      have hl6 : (outP P 1).length ≤ 1000 := Nat.le_trans (HPL.out 1) (by omega)
      have hlt5 : w1.heap.size < w5.heap.size := by omega
      have hlt6 : wr.heap.size < w5.heap.size := by omega
      have hb6s : w3.heap.size ≤ (w5.alloc (Obj.cells #[.int .i64 131, .slice A5 L1.length c5, .slice none 0 0] 53)).heap.size := by rw [alloc_size]; omega
      have HBS6 := Lib.hid hb6s
      have HL6 := Lib.hid hl6
      have HOY := Lib.hid (outP_yes HP1.out HPO.out)
      have HLE : Hid ((outP P 1 ++ [(131, L1)]).length = m + 1) := by show _ = _; rw [List.length_append, ← HMM.out]; rfl
      clear hx5 hx7 hb5 hb05 hp5 hba5 hl6 hb6s hf5
      go_wp2_with (at_builtin; refine wpList_appH rfl _ _ rfl w3.heap.size w1.heap.size _ (outP P 1) 131 _ L1 w5.heap.size rfl rfl HO7.out HF7.out HNE.out (heap_alloc_new _ _) HL6.out HBS6.out ?_; intro v7 w7 ho7 hb7; have hx8 := (hb7.block w1.heap.size (by omega)).trans HX7.out; have z2 := cell_of_row _ _ 2 _ _ _ hx8; have z3 := frozen_of_row _ _ 2 _ _ hx8; obtain ⟨A7, c7, hv7⟩ := ho7.value; rw [HLE.out] at hv7; subst hv7; have HX8 := Lib.hid hx8; have HO8 := Lib.hid ho7; have HB8 := Lib.hid hb7; clear hx8 ho7 hb7)
      go_roundw
      case rel => exact ⟨2, .slice A7 (m + 1) c7, by omega, by go_num, by rw [HOY.out]; exact HO8.out.set (by omega) _, row3_set2 _ _ _ _ _ _ _ HX8.out, (HK7.out.below2 HB8.out).set _ _⟩
      case measure => simp [intOf]
    · have cc0 := cell_of_row _ _ 8 _ _ _ hpr
      have cc1 := cell_of_row _ _ 9 _ _ _ hpr
      have cc2 := cell_of_row _ _ 10 _ _ _ hpr
      have cc3 := cell_of_row _ _ 11 _ _ _ hpr
      have hlm := HPL.out 2
      obtain ⟨m, hm⟩ : ∃ m, m = (outP P 2).length := ⟨_, rfl⟩
      rw [← hm] at hv6 hlm
      subst hv6
      have HMM := Lib.hid hm
      clear hm
      have hba := alloc_below wr (Obj.cells #[.int .i64 132, .slice none 0 0, .bool false, .func (Fn.func 54) #[] #[]] 59)
      have hna := heap_alloc_new wr (Obj.cells #[.int .i64 132, .slice none 0 0, .bool false, .func (Fn.func 54) #[] #[]] 59)
      have hza := alloc_size wr (Obj.cells #[.int .i64 132, .slice none 0 0, .bool false, .func (Fn.func 54) #[] #[]] 59)
      have HM := Lib.hid (HM2.out (wr.alloc (Obj.cells #[.int .i64 132, .slice none 0 0, .bool false, .func (Fn.func 54) #[] #[]] 59)))
      have HBA := Lib.hid hba
      have HNA2 := Lib.hid hna
      have HZA := Lib.hid hza
      clear hba hna hza hpr hfx
      by_cases hpo : 0 < name.length
      · have HPO : Hid (0 < name.length) := hpo
        have hpi : (0 : Int) < (name.length : Int) := by have := HPO.out; omega
        have hpd : decide ((0 : Int) < (name.length : Int)) = true := decide_eq_true hpi
        go_wp2_with fail
        refine HM.out.mono ?_
        rintro e w5 ⟨rfl, hb5⟩
        have hb05 := HBA.out.trans (hb5.mono HBA.out.size)
        have hs5 := hb05.size
        have hx5 := (hb05.block w1.heap.size (by omega)).trans HX.out
        have HK5 := Lib.hid (HKB.out.trans (Kb.of_below hb05))
        have HO5 := Lib.hid (HO.out.later hb05)
        have hp5 := (hb5.block wr.heap.size (by rw [HZA.out]; omega)).trans HNA2.out
        have p0 := cell_of_row _ _ 0 _ _ _ hp5
        have y2 := cell_of_row _ _ 2 _ _ _ hx5
        have hs5' := hb5.size
        rw [HZA.out] at hs5'
        have hba5 := alloc_below w5 (Obj.cells #[.int .i64 132, .slice A1 name.length c1, .slice none 0 0] 53)
        have HO7 := Lib.hid (HO5.out.later hba5)
        have hfn : FX w5 w1.heap.size (.slice A1 name.length c1) name := ⟨HNM.out.on (HBW.out.trans (hb05.mono (by omega))), fun hp => by obtain ⟨b, e1, e2⟩ := HNA.out hp; exact ⟨b, e1, by omega⟩⟩
        have HF7 := Lib.hid (hfn.on hba5)
        have HNE := Lib.hid (show 0 < name.length → (Value.slice A1 name.length c1).ownBlock ≠ (Value.slice A6 m c6).ownBlock from fun hp e => by obtain ⟨bb, e1, e2⟩ := HNA.out hp; have e3 := (HO.out.ltB bb (e.symm.trans e1)).1; omega)
        have HK7 := Lib.hid (HK5.out.trans (Kb.of_below hba5))
        have hx7 := (hba5.block w1.heap.size (by omega)).trans hx5
        have HX7 := Lib.hid hx7
        have hl6 : (outP P 2).length ≤ 1000 := Nat.le_trans (HPL.out 2) (by omega)
        have hlt5 : w1.heap.size < w5.heap.size := by omega
        have hlt6 : wr.heap.size < w5.heap.size := by omega
        have hb6s : w3.heap.size ≤ (w5.alloc (Obj.cells #[.int .i64 132, .slice A1 name.length c1, .slice none 0 0] 53)).heap.size := by rw [alloc_size]; omega
        have HBS6 := Lib.hid hb6s
        have HL6 := Lib.hid hl6
        have HOY := Lib.hid (outP_yes HP2.out HPO.out)
        have HLE : Hid ((outP P 2 ++ [(132, name)]).length = m + 1) := by show _ = _; rw [List.length_append, ← HMM.out]; rfl
        clear hx5 hx7 hb5 hb05 hp5 hba5 hl6 hb6s hfn
        go_wp2_with (at_builtin; refine wpList_appH rfl _ _ rfl w3.heap.size w1.heap.size _ (outP P 2) 132 _ name w5.heap.size rfl rfl HO7.out HF7.out HNE.out (heap_alloc_new _ _) HL6.out HBS6.out ?_; intro v7 w7 ho7 hb7; have hx8 := (hb7.block w1.heap.size (by omega)).trans HX7.out; have z2 := cell_of_row _ _ 2 _ _ _ hx8; have z3 := frozen_of_row _ _ 2 _ _ hx8; obtain ⟨A7, c7, hv7⟩ := ho7.value; rw [HLE.out] at hv7; subst hv7; have HX8 := Lib.hid hx8; have HO8 := Lib.hid ho7; have HB8 := Lib.hid hb7; clear hx8 ho7 hb7)
        go_roundw
        case rel => exact ⟨3, .slice A7 (m + 1) c7, by omega, by go_num, by rw [HOY.out]; exact HO8.out.set (by omega) _, row3_set2 _ _ _ _ _ _ _ HX8.out, (HK7.out.below2 HB8.out).set _ _⟩
        case measure => simp [intOf]
      · have HEM : Hid (name = []) := List.eq_nil_of_length_eq_zero (by omega)
        have hpd : decide ((0 : Int) < (name.length : Int)) = false := decide_eq_false (by omega)
        have hpn : ¬ (0 : Int) < (name.length : Int) := by omega
        go_wp2_with fail
        refine HM.out.mono ?_
        rintro e w5 ⟨rfl, hb5⟩
        have hb05 := HBA.out.trans (hb5.mono HBA.out.size)
        have hs5 := hb05.size
        have hx5 := (hb05.block w1.heap.size (by omega)).trans HX.out
        have HK5 := Lib.hid (HKB.out.trans (Kb.of_below hb05))
        have HO5 := Lib.hid (HO.out.later hb05)
        have HX5 := Lib.hid hx5
        clear hx5 hb5 hb05
        go_wp2_with fail
        go_roundw
        case rel => exact ⟨3, .slice A6 m c6, by omega, by go_num, by rw [outP_no HP2.out HEM.out]; exact HO5.out, HX5, HK5⟩
        case measure => simp [intOf]
    · have cc0 := cell_of_row _ _ 12 _ _ _ hpr
      have cc1 := cell_of_row _ _ 13 _ _ _ hpr
      have cc2 := cell_of_row _ _ 14 _ _ _ hpr
      have cc3 := cell_of_row _ _ 15 _ _ _ hpr
      have hlm := HPL.out 3
      obtain ⟨m, hm⟩ : ∃ m, m = (outP P 3).length := ⟨_, rfl⟩
      rw [← hm] at hv6 hlm
      subst hv6
      have HMM := Lib.hid hm
      clear hm
      have hba := alloc_below wr (Obj.cells #[.int .i64 128, .slice (some ⟨w2.heap.size + 1 + 1, 0, none⟩) 1 1, .bool false, .func (Fn.func 55) #[] #[]] 59)
      have hna := heap_alloc_new wr (Obj.cells #[.int .i64 128, .slice (some ⟨w2.heap.size + 1 + 1, 0, none⟩) 1 1, .bool false, .func (Fn.func 55) #[] #[]] 59)
      have hza := alloc_size wr (Obj.cells #[.int .i64 128, .slice (some ⟨w2.heap.size + 1 + 1, 0, none⟩) 1 1, .bool false, .func (Fn.func 55) #[] #[]] 59)
      have HM := Lib.hid (HM3.out (wr.alloc (Obj.cells #[.int .i64 128, .slice (some ⟨w2.heap.size + 1 + 1, 0, none⟩) 1 1, .bool false, .func (Fn.func 55) #[] #[]] 59)))
      have HBA := Lib.hid hba
      have HNA2 := Lib.hid hna
      have HZA := Lib.hid hza
      clear hba hna hza hpr hfx
      by_cases hpo : 0 < L3.length
      · have HPO : Hid (0 < L3.length) := hpo
        have hpi : (0 : Int) < (L3.length : Int) := by have := HPO.out; omega
        have hpd : decide ((0 : Int) < (L3.length : Int)) = true := decide_eq_true hpi
        go_wp2_with fail
        refine HM.out.mono ?_
        rintro e w5 ⟨v5, rfl, hf5, hb5⟩
        have hf51 := hf5.1
        obtain ⟨A5, c5, rfl, _⟩ := hf51
        have hb05 := HBA.out.trans (hb5.mono HBA.out.size)
        have hs5 := hb05.size
        have hx5 := (hb05.block w1.heap.size (by omega)).trans HX.out
        have HK5 := Lib.hid (HKB.out.trans (Kb.of_below hb05))
        have HO5 := Lib.hid (HO.out.later hb05)
        have hp5 := (hb5.block wr.heap.size (by rw [HZA.out]; omega)).trans HNA2.out
        have p0 := cell_of_row _ _ 0 _ _ _ hp5
        have y2 := cell_of_row _ _ 2 _ _ _ hx5
        have hs5' := hb5.size
        rw [HZA.out] at hs5'
        have hba5 := alloc_below w5 (Obj.cells #[.int .i64 128, .slice A5 L3.length c5, .slice none 0 0] 53)
        have HO7 := Lib.hid (HO5.out.later hba5)
        have HF7 := Lib.hid ((FX.of hf5 (x := w1.heap.size) (by rw [HZA.out]; omega)).on hba5)
        have HNE := Lib.hid (show 0 < L3.length → (Value.slice A5 L3.length c5).ownBlock ≠ (Value.slice A6 m c6).ownBlock from fun hp e => by obtain ⟨bb, e1, e2⟩ := hf5.2.out hp; have e3 := (HO.out.ltB bb (e.symm.trans e1)).2; rw [HZA.out] at e2; omega)
        have HK7 := Lib.hid (HK5.out.trans (Kb.of_below hba5))
        have hx7 := (hba5.block w1.heap.size (by omega)).trans hx5
        have HX7 := Lib.hid hx7
        have hl6 : (outP P 3).length ≤ 1000 := Nat.le_trans (HPL.out 3) (by omega)
        have hlt5 : w1.heap.size < w5.heap.size := by omega
        have hlt6 : wr.heap.size < w5.heap.size := by omega
        have hb6s : w3.heap.size ≤ (w5.alloc (Obj.cells #[.int .i64 128, .slice A5 L3.length c5, .slice none 0 0] 53)).heap.size := by rw [alloc_size]; omega
        have HBS6 := Lib.hid hb6s
        have HL6 := Lib.hid hl6
        have HOY := Lib.hid (outP_yes HP3.out HPO.out)
        have HLE : Hid ((outP P 3 ++ [(128, L3)]).length = m + 1) := by show _ = _; rw [List.length_append, ← HMM.out]; rfl
        clear hx5 hx7 hb5 hb05 hp5 hba5 hl6 hb6s hf5
        go_wp2_with (at_builtin; refine wpList_appH rfl _ _ rfl w3.heap.size w1.heap.size _ (outP P 3) 128 _ L3 w5.heap.size rfl rfl HO7.out HF7.out HNE.out (heap_alloc_new _ _) HL6.out HBS6.out ?_; intro v7 w7 ho7 hb7; have hx8 := (hb7.block w1.heap.size (by omega)).trans HX7.out; have z2 := cell_of_row _ _ 2 _ _ _ hx8; have z3 := frozen_of_row _ _ 2 _ _ hx8; obtain ⟨A7, c7, hv7⟩ := ho7.value; rw [HLE.out] at hv7; subst hv7; have HX8 := Lib.hid hx8; have HO8 := Lib.hid ho7; have HB8 := Lib.hid hb7; clear hx8 ho7 hb7)
        go_roundw
        case rel => exact ⟨4, .slice A7 (m + 1) c7, by omega, by go_num, by rw [HOY.out]; exact HO8.out.set (by omega) _, row3_set2 _ _ _ _ _ _ _ HX8.out, (HK7.out.below2 HB8.out).set _ _⟩
        case measure => simp [intOf]
      · have HEM : Hid (L3 = []) := List.eq_nil_of_length_eq_zero (by omega)
        have hpd : decide ((0 : Int) < (L3.length : Int)) = false := decide_eq_false (by omega)
        have hpn : ¬ (0 : Int) < (L3.length : Int) := by omega
        go_wp2_with fail
        refine HM.out.mono ?_
        rintro e w5 ⟨v5, rfl, hf5, hb5⟩
        have hf51 := hf5.1
        obtain ⟨A5, c5, rfl, _⟩ := hf51
        have hb05 := HBA.out.trans (hb5.mono HBA.out.size)
        have hs5 := hb05.size
        have hx5 := (hb05.block w1.heap.size (by omega)).trans HX.out
        have HK5 := Lib.hid (HKB.out.trans (Kb.of_below hb05))
        have HO5 := Lib.hid (HO.out.later hb05)
        have HX5 := Lib.hid hx5
        clear hx5 hb5 hb05 hf5
        go_wp2_with fail
        go_roundw
        case rel => exact ⟨4, .slice A6 m c6, by omega, by go_num, by rw [outP_no HP3.out HEM.out]; exact HO5.out, HX5, HK5⟩
        case measure => simp [intOf]
    · have cc0 := cell_of_row _ _ 16 _ _ _ hpr
      have cc1 := cell_of_row _ _ 17 _ _ _ hpr
      have cc2 := cell_of_row _ _ 18 _ _ _ hpr
      have cc3 := cell_of_row _ _ 19 _ _ _ hpr
      have hlm := HPL.out 4
      obtain ⟨m, hm⟩ : ∃ m, m = (outP P 4).length := ⟨_, rfl⟩
      rw [← hm] at hv6 hlm
      subst hv6
      have HMM := Lib.hid hm
      clear hm
      have hba := alloc_below wr (Obj.cells #[.int .i64 136, .slice (some ⟨w2.heap.size + 1 + 1 + 1, 0, none⟩) 1 1, .bool false, .func (Fn.func 56) #[] #[]] 59)
      have hna := heap_alloc_new wr (Obj.cells #[.int .i64 136, .slice (some ⟨w2.heap.size + 1 + 1 + 1, 0, none⟩) 1 1, .bool false, .func (Fn.func 56) #[] #[]] 59)
      have hza := alloc_size wr (Obj.cells #[.int .i64 136, .slice (some ⟨w2.heap.size + 1 + 1 + 1, 0, none⟩) 1 1, .bool false, .func (Fn.func 56) #[] #[]] 59)
      have HM := Lib.hid (HM4.out (wr.alloc (Obj.cells #[.int .i64 136, .slice (some ⟨w2.heap.size + 1 + 1 + 1, 0, none⟩) 1 1, .bool false, .func (Fn.func 56) #[] #[]] 59)))
      have HBA := Lib.hid hba
      have HNA2 := Lib.hid hna
      have HZA := Lib.hid hza
      clear hba hna hza hpr hfx
      by_cases hpo : 0 < L4.length
      · have HPO : Hid (0 < L4.length) := hpo
        have hpi : (0 : Int) < (L4.length : Int) := by have := HPO.out; omega
        have hpd : decide ((0 : Int) < (L4.length : Int)) = true := decide_eq_true hpi
        go_wp2_with fail
        refine HM.out.mono ?_
        rintro e w5 ⟨v5, rfl, hf5, hb5⟩
        have hf51 := hf5.1
        obtain ⟨A5, c5, rfl, _⟩ := hf51
        have hb05 := HBA.out.trans (hb5.mono HBA.out.size)
        have hs5 := hb05.size
        have hx5 := (hb05.block w1.heap.size (by omega)).trans HX.out
        have HK5 := Lib.hid (HKB.out.trans (Kb.of_below hb05))
        have HO5 := Lib.hid (HO.out.later hb05)
        have hp5 := (hb5.block wr.heap.size (by rw [HZA.out]; omega)).trans HNA2.out
        have p0 := cell_of_row _ _ 0 _ _ _ hp5
        have y2 := cell_of_row _ _ 2 _ _ _ hx5
        have hs5' := hb5.size
        rw [HZA.out] at hs5'
        have hba5 := alloc_below w5 (Obj.cells #[.int .i64 136, .slice A5 L4.length c5, .slice none 0 0] 53)
        have HO7 := Lib.hid (HO5.out.later hba5)
        have HF7 := Lib.hid ((FX.of hf5 (x := w1.heap.size) (by rw [HZA.out]; omega)).on hba5)
        have HNE := Lib.hid (show 0 < L4.length → (Value.slice A5 L4.length c5).ownBlock ≠ (Value.slice A6 m c6).ownBlock from fun hp e => by obtain ⟨bb, e1, e2⟩ := hf5.2.out hp; have e3 := (HO.out.ltB bb (e.symm.trans e1)).2; rw [HZA.out] at e2; omega)
        have HK7 := Lib.hid (HK5.out.trans (Kb.of_below hba5))
        have hx7 := (hba5.block w1.heap.size (by omega)).trans hx5
        have HX7 := Lib.hid hx7
        have hl6 : (outP P 4).length ≤ 1000 := Nat.le_trans (HPL.out 4) (by omega)
        have hlt5 : w1.heap.size < w5.heap.size := by omega
        have hlt6 : wr.heap.size < w5.heap.size := by omega
        have hb6s : w3.heap.size ≤ (w5.alloc (Obj.cells #[.int .i64 136, .slice A5 L4.length c5, .slice none 0 0] 53)).heap.size := by rw [alloc_size]; omega
        have HBS6 := Lib.hid hb6s
        have HL6 := Lib.hid hl6
        have HOY := Lib.hid (outP_yes HP4.out HPO.out)
        have HLE : Hid ((outP P 4 ++ [(136, L4)]).length = m + 1) := by show _ = _; rw [List.length_append, ← HMM.out]; rfl
        clear hx5 hx7 hb5 hb05 hp5 hba5 hl6 hb6s hf5
        go_wp2_with (at_builtin; refine wpList_appH rfl _ _ rfl w3.heap.size w1.heap.size _ (outP P 4) 136 _ L4 w5.heap.size rfl rfl HO7.out HF7.out HNE.out (heap_alloc_new _ _) HL6.out HBS6.out ?_; intro v7 w7 ho7 hb7; have hx8 := (hb7.block w1.heap.size (by omega)).trans HX7.out; have z2 := cell_of_row _ _ 2 _ _ _ hx8; have z3 := frozen_of_row _ _ 2 _ _ hx8; obtain ⟨A7, c7, hv7⟩ := ho7.value; rw [HLE.out] at hv7; subst hv7; have HX8 := Lib.hid hx8; have HO8 := Lib.hid ho7; have HB8 := Lib.hid hb7; clear hx8 ho7 hb7)
        go_roundw
        case rel => exact ⟨5, .slice A7 (m + 1) c7, by omega, by go_num, by rw [HOY.out]; exact HO8.out.set (by omega) _, row3_set2 _ _ _ _ _ _ _ HX8.out, (HK7.out.below2 HB8.out).set _ _⟩
        case measure => simp [intOf]
      · have HEM : Hid (L4 = []) := List.eq_nil_of_length_eq_zero (by omega)
        have hpd : decide ((0 : Int) < (L4.length : Int)) = false := decide_eq_false (by omega)
        have hpn : ¬ (0 : Int) < (L4.length : Int) := by omega
        go_wp2_with fail
        refine HM.out.mono ?_
        rintro e w5 ⟨v5, rfl, hf5, hb5⟩
        have hf51 := hf5.1
        obtain ⟨A5, c5, rfl, _⟩ := hf51
        have hb05 := HBA.out.trans (hb5.mono HBA.out.size)
        have hs5 := hb05.size
        have hx5 := (hb05.block w1.heap.size (by omega)).trans HX.out
        have HK5 := Lib.hid (HKB.out.trans (Kb.of_below hb05))
        have HO5 := Lib.hid (HO.out.later hb05)
        have HX5 := Lib.hid hx5
        clear hx5 hb5 hb05 hf5
        go_wp2_with fail
        go_roundw
        case rel => exact ⟨5, .slice A6 m c6, by omega, by go_num, by rw [outP_no HP4.out HEM.out]; exact HO5.out, HX5, HK5⟩
        case measure => simp [intOf]
    · have cc0 := cell_of_row _ _ 20 _ _ _ hpr
      have cc1 := cell_of_row _ _ 21 _ _ _ hpr
      have cc2 := cell_of_row _ _ 22 _ _ _ hpr
      have cc3 := cell_of_row _ _ 23 _ _ _ hpr
      have hlm := HPL.out 5
      obtain ⟨m, hm⟩ : ∃ m, m = (outP P 5).length := ⟨_, rfl⟩
      rw [← hm] at hv6 hlm
      subst hv6
      have HMM := Lib.hid hm
      clear hm
      have hba := alloc_below wr (Obj.cells #[.int .i64 138, .slice (some ⟨w2.heap.size + 1 + 1 + 1 + 1, 0, none⟩) 1 1, .bool true, .func (Fn.func 57) #[] #[]] 59)
      have hna := heap_alloc_new wr (Obj.cells #[.int .i64 138, .slice (some ⟨w2.heap.size + 1 + 1 + 1 + 1, 0, none⟩) 1 1, .bool true, .func (Fn.func 57) #[] #[]] 59)
      have hza := alloc_size wr (Obj.cells #[.int .i64 138, .slice (some ⟨w2.heap.size + 1 + 1 + 1 + 1, 0, none⟩) 1 1, .bool true, .func (Fn.func 57) #[] #[]] 59)
      have HM := Lib.hid (HM5.out (wr.alloc (Obj.cells #[.int .i64 138, .slice (some ⟨w2.heap.size + 1 + 1 + 1 + 1, 0, none⟩) 1 1, .bool true, .func (Fn.func 57) #[] #[]] 59)))
      have HBA := Lib.hid hba
      have HNA2 := Lib.hid hna
      have HZA := Lib.hid hza
      clear hba hna hza hpr hfx
      have HPO : Hid (0 < L5.length) := hn5
      have hpi : (0 : Int) < (L5.length : Int) := by have := HPO.out; omega
      have hpd : decide ((0 : Int) < (L5.length : Int)) = true := decide_eq_true hpi
      go_wp2_with fail
      refine HM.out.mono ?_
      rintro e w5 ⟨v5, rfl, hf5, hb5⟩
      have hf51 := hf5.1
      obtain ⟨A5, c5, rfl, _⟩ := hf51
      have hb05 := HBA.out.trans (hb5.mono HBA.out.size)
      have hs5 := hb05.size
      have hx5 := (hb05.block w1.heap.size (by omega)).trans HX.out
      have HK5 := Lib.hid (HKB.out.trans (Kb.of_below hb05))
      have HO5 := Lib.hid (HO.out.later hb05)
      have hp5 := (hb5.block wr.heap.size (by rw [HZA.out]; omega)).trans HNA2.out
      have p0 := cell_of_row _ _ 0 _ _ _ hp5
      have y2 := cell_of_row _ _ 2 _ _ _ hx5
      have hs5' := hb5.size
      rw [HZA.out] at hs5'
      have hba5 := alloc_below w5 (Obj.cells #[.int .i64 138, .slice A5 L5.length c5, .slice none 0 0] 53)
      have HO7 := Lib.hid (HO5.out.later hba5)
      have HF7 := Lib.hid ((FX.of hf5 (x := w1.heap.size) (by rw [HZA.out]; omega)).on hba5)
      have HNE := Lib.hid (show 0 < L5.length → (Value.slice A5 L5.length c5).ownBlock ≠ (Value.slice A6 m c6).ownBlock from fun hp e => by obtain ⟨bb, e1, e2⟩ := hf5.2.out hp; have e3 := (HO.out.ltB bb (e.symm.trans e1)).2; rw [HZA.out] at e2; omega)
      have HK7 := Lib.hid (HK5.out.trans (Kb.of_below hba5))
      have hx7 := (hba5.block w1.heap.size (by omega)).trans hx5
      have HX7 := Lib.hid hx7
      have hl6 : (outP P 5).length ≤ 1000 := Nat.le_trans (HPL.out 5) (by omega)
      have hlt5 : w1.heap.size < w5.heap.size := by omega
      have hlt6 : wr.heap.size < w5.heap.size := by omega
      have hb6s : w3.heap.size ≤ (w5.alloc (Obj.cells #[.int .i64 138, .slice A5 L5.length c5, .slice none 0 0] 53)).heap.size := by rw [alloc_size]; omega
      have HBS6 := Lib.hid hb6s
      have HL6 := Lib.hid hl6
      have HOY := Lib.hid (outP_yes HP5.out HPO.out)
      have HLE : Hid ((outP P 5 ++ [(138, L5)]).length = m + 1) := by show _ = _; rw [List.length_append, ← HMM.out]; rfl
      clear hx5 hx7 hb5 hb05 hp5 hba5 hl6 hb6s hf5
      go_wp2_with (at_builtin; refine wpList_appH rfl _ _ rfl w3.heap.size w1.heap.size _ (outP P 5) 138 _ L5 w5.heap.size rfl rfl HO7.out HF7.out HNE.out (heap_alloc_new _ _) HL6.out HBS6.out ?_; intro v7 w7 ho7 hb7; have hx8 := (hb7.block w1.heap.size (by omega)).trans HX7.out; have z2 := cell_of_row _ _ 2 _ _ _ hx8; have z3 := frozen_of_row _ _ 2 _ _ hx8; obtain ⟨A7, c7, hv7⟩ := ho7.value; rw [HLE.out] at hv7; subst hv7; have HX8 := Lib.hid hx8; have HO8 := Lib.hid ho7; have HB8 := Lib.hid hb7; clear hx8 ho7 hb7)
      go_roundw
      case rel => exact ⟨6, .slice A7 (m + 1) c7, by omega, by go_num, by rw [HOY.out]; exact HO8.out.set (by omega) _, row3_set2 _ _ _ _ _ _ _ HX8.out, (HK7.out.below2 HB8.out).set _ _⟩
      case measure => simp [intOf]
    · have cc0 := cell_of_row _ _ 24 _ _ _ hpr
      have cc1 := cell_of_row _ _ 25 _ _ _ hpr
      have cc2 := cell_of_row _ _ 26 _ _ _ hpr
      have cc3 := cell_of_row _ _ 27 _ _ _ hpr
      have hlm := HPL.out 6
      obtain ⟨m, hm⟩ : ∃ m, m = (outP P 6).length := ⟨_, rfl⟩
      rw [← hm] at hv6 hlm
      subst hv6
      have HMM := Lib.hid hm
      clear hm
      have hba := alloc_below wr (Obj.cells #[.int .i64 134, .slice none 0 0, .bool false, .func (Fn.func 58) #[] #[]] 59)
      have hna := heap_alloc_new wr (Obj.cells #[.int .i64 134, .slice none 0 0, .bool false, .func (Fn.func 58) #[] #[]] 59)
      have hza := alloc_size wr (Obj.cells #[.int .i64 134, .slice none 0 0, .bool false, .func (Fn.func 58) #[] #[]] 59)
      have HM := Lib.hid (HM6.out (wr.alloc (Obj.cells #[.int .i64 134, .slice none 0 0, .bool false, .func (Fn.func 58) #[] #[]] 59)) (HBW.out.trans (hba.mono (by omega))) ((HT3.out.below (HKB.out.below (B := 1) (by have := HT1.out.size; omega) (by omega)) (by omega)).on hba))
      have HBA := Lib.hid hba
      have HNA2 := Lib.hid hna
      have HZA := Lib.hid hza
      clear hba hna hza hpr hfx
      by_cases hpo : 0 < L6.length
      · have HPO : Hid (0 < L6.length) := hpo
        have hpi : (0 : Int) < (L6.length : Int) := by have := HPO.out; omega
        have hpd : decide ((0 : Int) < (L6.length : Int)) = true := decide_eq_true hpi
        go_wp2_with fail
        refine HM.out.mono ?_
        rintro e w5 ⟨v5, rfl, hf5, hb5⟩
        have hf51 := hf5.1
        obtain ⟨A5, c5, rfl, _⟩ := hf51
        have hb05 := HBA.out.trans (hb5.mono HBA.out.size)
        have hs5 := hb05.size
        have hx5 := (hb05.block w1.heap.size (by omega)).trans HX.out
        have HK5 := Lib.hid (HKB.out.trans (Kb.of_below hb05))
        have HO5 := Lib.hid (HO.out.later hb05)
        have hp5 := (hb5.block wr.heap.size (by rw [HZA.out]; omega)).trans HNA2.out
        have p0 := cell_of_row _ _ 0 _ _ _ hp5
        have y2 := cell_of_row _ _ 2 _ _ _ hx5
        have hs5' := hb5.size
        rw [HZA.out] at hs5'
        have hba5 := alloc_below w5 (Obj.cells #[.int .i64 134, .slice A5 L6.length c5, .slice none 0 0] 53)
        have HO7 := Lib.hid (HO5.out.later hba5)
        have HF7 := Lib.hid ((FX.of hf5 (x := w1.heap.size) (by rw [HZA.out]; omega)).on hba5)
        have HNE := Lib.hid (show 0 < L6.length → (Value.slice A5 L6.length c5).ownBlock ≠ (Value.slice A6 m c6).ownBlock from fun hp e => by obtain ⟨bb, e1, e2⟩ := hf5.2.out hp; have e3 := (HO.out.ltB bb (e.symm.trans e1)).2; rw [HZA.out] at e2; omega)
        have HK7 := Lib.hid (HK5.out.trans (Kb.of_below hba5))
        have hx7 := (hba5.block w1.heap.size (by omega)).trans hx5
        have HX7 := Lib.hid hx7
        have hl6 : (outP P 6).length ≤ 1000 := Nat.le_trans (HPL.out 6) (by omega)
        have hlt5 : w1.heap.size < w5.heap.size := by omega
        have hlt6 : wr.heap.size < w5.heap.size := by omega
        have hb6s : w3.heap.size ≤ (w5.alloc (Obj.cells #[.int .i64 134, .slice A5 L6.length c5, .slice none 0 0] 53)).heap.size := by rw [alloc_size]; omega
        have HBS6 := Lib.hid hb6s
        have HL6 := Lib.hid hl6
        have HOY := Lib.hid (outP_yes HP6.out HPO.out)
        have HLE : Hid ((outP P 6 ++ [(134, L6)]).length = m + 1) := by show _ = _; rw [List.length_append, ← HMM.out]; rfl
        clear hx5 hx7 hb5 hb05 hp5 hba5 hl6 hb6s hf5
        go_wp2_with (at_builtin; refine wpList_appH rfl _ _ rfl w3.heap.size w1.heap.size _ (outP P 6) 134 _ L6 w5.heap.size rfl rfl HO7.out HF7.out HNE.out (heap_alloc_new _ _) HL6.out HBS6.out ?_; intro v7 w7 ho7 hb7; have hx8 := (hb7.block w1.heap.size (by omega)).trans HX7.out; have z2 := cell_of_row _ _ 2 _ _ _ hx8; have z3 := frozen_of_row _ _ 2 _ _ hx8; obtain ⟨A7, c7, hv7⟩ := ho7.value; rw [HLE.out] at hv7; subst hv7; have HX8 := Lib.hid hx8; have HO8 := Lib.hid ho7; have HB8 := Lib.hid hb7; clear hx8 ho7 hb7)
        go_roundw
        case rel => exact ⟨7, .slice A7 (m + 1) c7, by omega, by go_num, by rw [HOY.out]; exact HO8.out.set (by omega) _, row3_set2 _ _ _ _ _ _ _ HX8.out, (HK7.out.below2 HB8.out).set _ _⟩
        case measure => simp [intOf]
      · have HEM : Hid (L6 = []) := List.eq_nil_of_length_eq_zero (by omega)
        have hpd : decide ((0 : Int) < (L6.length : Int)) = false := decide_eq_false (by omega)
        have hpn : ¬ (0 : Int) < (L6.length : Int) := by omega
        go_wp2_with fail
        refine HM.out.mono ?_
        rintro e w5 ⟨v5, rfl, hf5, hb5⟩
        have hf51 := hf5.1
        obtain ⟨A5, c5, rfl, _⟩ := hf51
        have hb05 := HBA.out.trans (hb5.mono HBA.out.size)
        have hs5 := hb05.size
        have hx5 := (hb05.block w1.heap.size (by omega)).trans HX.out
        have HK5 := Lib.hid (HKB.out.trans (Kb.of_below hb05))
        have HO5 := Lib.hid (HO.out.later hb05)
        have HX5 := Lib.hid hx5
        clear hx5 hb5 hb05 hf5
        go_wp2_with fail
        go_roundw
        case rel => exact ⟨7, .slice A6 m c6, by omega, by go_num, by rw [outP_no HP6.out HEM.out]; exact HO5.out, HX5, HK5⟩
        case measure => simp [intOf]
    · have htl := HO.out.tl
      obtain ⟨m, hm⟩ : ∃ m, m = (outP P 7).length := ⟨_, rfl⟩
      rw [← hm] at hv6
      have hmm : ((outP P 7).map gObj).length = m := by rw [List.length_map, hm]
      subst hv6
      clear hm
      have hone := TL.one wr 98 _ _ htl
      have hba := alloc_below wr (Obj.cells #[.int .i64 98, .slice none 0 0, .slice A6 m c6] 53)
      have hpe := pencode_fs [T.mk 98 [] ((outP P 7).map gObj)] _ _ hone HPT.out
      rw [← HEE.out, ← HEM2.out] at hpe
      have HPE := Lib.hid hpe
      have HBA := Lib.hid hba
      clear htl hone hba hpe hpr hfx hmm
      go_wp2_with fail
      refine HPE.out.mono ?_
      rintro e w8 ⟨v8, rfl, hsl8, hb8⟩
      have HB8 := Lib.hid (HBW.out.trans ((HBA.out.trans (hb8.mono HBA.out.size)).mono HBW.out.size))
      have hsl81 := hsl8.1
      obtain ⟨A9, c9, rfl, _⟩ := hsl81
      have HSL8 := Lib.hid (hsl8.more (lo' := w.heap.size) (by have := HBA.out.size; omega))
      clear hsl8 hb8
      go_wp2_with fail
      go_ret2
      exact ⟨_, rfl, HSL8.out, HB8.out⟩
end Go.Proofs.YtkjcafhaenkpbaaDoor
