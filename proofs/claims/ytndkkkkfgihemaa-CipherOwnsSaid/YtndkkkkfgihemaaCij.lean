/-
  Layer 19: the law that arguments are kept and results are new memory.
-/
import Derived.Test.YtndkkkkfgihemaaMog
import Derived.Test.YtndkkkkfgihemaaCii
namespace Go.Proofs.Ytndkkkkfgihemaa
set_option linter.unusedVariables false
set_option linter.unusedSimpArgs false
open Go.RowKit

theorem flatten_take_le (ls : List (List UInt8)) (k : Nat) : ((ls.take k).flatten).length ≤ ls.flatten.length := by
  conv => rhs; rw [← List.take_append_drop k ls]
  rw [List.flatten_append, List.length_append]
  omega
theorem flatten_take_succ (ls : List (List UInt8)) (k : Nat) (h : k < ls.length) : (ls.take (k + 1)).flatten = (ls.take k).flatten ++ ls.getD k [] := by
  rw [List.take_succ_eq_append_getElem h, List.flatten_append]
  simp [List.getD, List.getElem?_eq_getElem h]

set_option maxRecDepth 100000 in
set_option maxHeartbeats 1600000 in
theorem rjoin_any (ls : List (List UInt8)) (v : Value) (w : World) (h : LL w w.heap.size v ls) (hn : ls.length ≤ 1000000) (hs : ls.flatten.length ≤ 10000000) :
    Calls Try.prog 21 #[v] w fun e w' => ∃ v', e = .returned v' ∧ SL w' w'.heap.size v' ls.flatten ∧ Below w.heap.size w w' := by
  obtain ⟨A, c, vs, rfl, h1, h2, h3, h4, h5⟩ := h
  unfold maxLen at h2
  go_enter Try.func21, Try.ntmps21
  go_wp2_with fail
  go_loopw [3, 4] (fun o i wr => ∃ k : Nat, k ≤ ls.length ∧ i = .int .i64 k ∧ OB wr w.heap.size o ((ls.take k).flatten) ∧ Below w.heap.size w wr) (fun _ i _ => ls.length - (intOf i).toNat)
  case atStart => exact ⟨0, Nat.zero_le _, rfl, OB.nil _ _, Below.refl _ _⟩
  case round =>
    obtain ⟨k, hk, rfl, hown, hbel⟩ := hrel
    by_cases hkl : k < ls.length
    · obtain ⟨b, o, rfl, hb, hc⟩ := h4.out (by omega)
      have hck := hc k hkl
      obtain ⟨Ak, ck, ek, _, _, hrk⟩ := h5.out k hkl
      rw [ek] at hck
      have hfl := flatten_take_succ ls k hkl
      have hle := flatten_take_le ls (k + 1)
      rw [hfl, List.length_append] at hle
      obtain ⟨q, hq⟩ : ∃ q, q = ls.getD k [] := ⟨_, rfl⟩
      rw [← hq] at hck hrk hfl hle
      have g1 := (hbel.cell (p := ⟨b, o + k, none⟩) hb).trans hck
      have HF := Lib.hid hfl
      have HLE : Hid (((ls.take k).flatten).length + q.length ≤ 100000000) := Nat.le_trans hle (by omega)
      have hsz := hbel.size
      clear hc hck ek hfl hle hq
      go_wp2_with (at_builtin; refine wpList_appS rfl (.tmp 11) (.tmp 15) rfl wr w.heap.size u3 ((ls.take k).flatten) q Ak ck rfl rfl (Below.refl _ _) hown (fun hp => by obtain ⟨b', o', hA, hb', hc'⟩ := hrk hp; exact ⟨b', o', hA, fun j hj => (hbel.cell (p := ⟨b', o' + j, none⟩) hb').trans (hc' j hj)⟩) HLE.out hsz ?_; intro v1 w1 hown1 hb1)
      go_roundw
      case rel => exact ⟨k + 1, by omega, by go_num, by rw [HF.out]; exact hown1, hbel.trans hb1⟩
      case measure => simp [intOf]; omega
    · have hke : k = ls.length := by omega
      subst hke
      go_wp2_with fail
      go_ret
      refine ⟨_, rfl, ?_, hbel⟩
      rw [List.take_length] at hown
      exact hown.sl
theorem rjoin1 (a : List UInt8) (va : Value) (w : World) (o : Obj) (ho : o = Obj.cells #[va] 22) (ha : SL w w.heap.size va a) (hs : a.length ≤ 1000) :
    Calls Try.prog 21 #[.slice (some ⟨w.heap.size, 0, none⟩) 1 1] (w.alloc o) fun e w' => ∃ v', e = .returned v' ∧ SL w' w'.heap.size v' a ∧ Below w.heap.size w w' := by
  subst ho
  have hal := (Below.refl w.heap.size w).alloc (Nat.le_refl _) (Obj.cells #[va] 22)
  have hll : LL (w.alloc (Obj.cells #[va] 22)) (w.alloc (Obj.cells #[va] 22)).heap.size (.slice (some ⟨w.heap.size, 0, none⟩) 1 1) [a] :=
    LL.lit w.heap.size [va] [a] rfl (by simp) (heap_alloc_new w _) (fun k hk => by
      have : k = 0 := by simp at hk; omega
      subst this
      exact ha.on hal)
  refine (rjoin_any [a] _ _ hll (by simp) (by simp; omega)).mono fun e w' ⟨v', e1, e2, e3⟩ => ⟨v', e1, by simpa using e2, hal.trans (e3.mono hal.size)⟩
theorem inc_walk (y : UInt8) : (((y.toNat : Int) + 1) % 256) = ((y + 1).toNat : Int) := by
  rw [UInt8.toNat_add]
  simp

set_option maxRecDepth 100000 in
set_option maxHeartbeats 3200000 in
theorem law_cowns (k b : List UInt8) (v u : Value) (w : World) (hk : SL w w.heap.size v k) (hb : SL w w.heap.size u b) :
    Calls Try.prog 6 #[v, u] w fun e w' => e = .returned (.bool true) ∧ Below w.heap.size w w' := by
  have HX := Lib.hid ex19_any
  have HK := Lib.hid (fun W (h : Below w.heap.size w W) => hk.on h)
  have HB := Lib.hid (fun W (h : Below w.heap.size w W) => hb.on h)
  obtain ⟨A1, c1, rfl, h11, h12, h13⟩ := hk
  obtain ⟨A2, c2, rfl, h21, h22, h23⟩ := hb
  clear h13 h23
  rcases Nat.lt_or_ge 100 k.length with hs | hs
  · go_enter Try.func6, Try.ntmps6
    go_wp2_with (go_at_call 15; refine (HX.out _).mono ?_; rintro e w1 ⟨rfl, hb1⟩)
    go_ret
    exact ⟨rfl, hb1⟩
  rcases Nat.lt_or_ge 100 b.length with hs2 | hs2
  · have s1 : ¬ 100 < k.length := by omega
    go_enter Try.func6, Try.ntmps6
    go_wp2_with (go_at_call 15; refine (HX.out _).mono ?_; rintro e w1 ⟨rfl, hb1⟩)
    go_ret
    exact ⟨rfl, hb1⟩
  have s1 : ¬ 100 < k.length := by omega
  have s2 : ¬ 100 < b.length := by omega
  have J1 := Lib.hid (fun W o (ho : o = Obj.cells #[.slice A1 k.length c1] 22) (h : Below w.heap.size w W) => rjoin1 k _ W o ho (HK.out W h) (by omega))
  have J2 := Lib.hid (fun W o (ho : o = Obj.cells #[.slice A2 b.length c2] 22) (h : Below w.heap.size w W) => rjoin1 b _ W o ho (HB.out W h) (by omega))
  clear hs hs2
  have H1 := Lib.hid (fun W v u (hk : SL W W.heap.size v k) (hb : SL W W.heap.size u b) => penc_any k b v u W hk hb)
  have H2 := Lib.hid (fun W v u (hk : SL W W.heap.size v k) (hb : SL W W.heap.size u b) => pdec_any k b v u W hk hb)
  have r1len : Hid ((encM k b).length ≤ 8) := by show _ ≤ _; unfold encM; split <;> simp [encB_length]
  have r2len : Hid ((decM k b).length ≤ 8) := by show _ ≤ _; unfold decM; split <;> simp [decB_length]
  generalize encM k b = r1 at *
  generalize decM k b = r2 at *
  generalize fitE k b = E at *
  go_enter Try.func6, Try.ntmps6
  go_wp2_with fail
  refine (J1.out _ _ rfl (Below.refl _ _)).mono ?_
  rintro e w1 ⟨v1, rfl, hv1, hb1⟩
  go_wp2_with fail
  refine (J2.out _ _ rfl hb1).mono ?_
  rintro e w2 ⟨v2, rfl, hv2, hb2⟩
  have b2 := after hb1 hb2
  have K2 := hv1.on hb2
  go_wp2_with fail
  refine (H1.out _ _ _ K2 hv2).mono ?_
  rintro e w3 ⟨v3, rfl, hv3, hb3⟩
  obtain ⟨A3, c3, rfl⟩ := hv3.value
  go_wp2_with fail
  go_loopw [9] (fun i wr => ∃ (j : Nat) (m : List UInt8), j ≤ r1.length ∧ i = .int .i64 j ∧ Hid (m.length = r1.length) ∧ OB wr w2.heap.size (.slice A3 r1.length c3) m ∧ Below w2.heap.size w2 wr) (fun i _ => r1.length - (intOf i).toNat)
  case atStart => exact ⟨0, r1, by omega, rfl, rfl, hv3, hb3⟩
  case round =>
    obtain ⟨j, m, hj, rfl, hml, hown, hbel⟩ := hrel
    have hl8 : r1.length ≤ 8 := r1len.out
    by_cases hlt : j < r1.length
    · obtain ⟨g, cap, eg, hg, _⟩ := World.ownsRow.form hown (by rw [hml.out]; omega)
      simp only [Value.slice.injEq] at eg
      obtain ⟨rfl, _, rfl⟩ := eg
      have g3 := hown.cellAt j (by rw [hml.out]; omega)
      have g4 := hown.frozenAt j
      have HU := Lib.hid (inc_walk (m.getD j 0))
      have hx8 := u8_lt (m.getD j 0)
      generalize m.getD j 0 = y at *
      go_wp2
      go_roundw
      case rel => exact ⟨j + 1, m.set j (y + 1), by omega, by go_num, by show _ = _; rw [List.length_set]; exact hml.out, hown.stored j _ _ HU.out, hbel.setCell (p := ⟨g, j, none⟩) hg _⟩
      case measure => simp [intOf]; omega
    · have hje : j = r1.length := by omega
      clear hown hml hv3 hlt hj
      have K4 := K2.on hbel
      have B4 := hv2.on hbel
      have b4 := after b2 hbel
      subst hje
      go_wp2_with fail
      refine (H2.out _ _ _ K4 B4).mono ?_
      rintro e w5 ⟨v5, rfl, hv5, hb5⟩
      obtain ⟨A5, c5, rfl⟩ := hv5.value
      go_wp2_with fail
      go_loopw [12] (fun i wq => ∃ (j : Nat) (m : List UInt8), j ≤ r2.length ∧ i = .int .i64 j ∧ Hid (m.length = r2.length) ∧ OB wq wr.heap.size (.slice A5 r2.length c5) m ∧ Below wr.heap.size wr wq) (fun i _ => r2.length - (intOf i).toNat)
      case atStart => exact ⟨0, r2, by omega, rfl, rfl, hv5, hb5⟩
      case round =>
        obtain ⟨j, m, hj, rfl, hml, hown, hbel2⟩ := hrel
        have hl82 : r2.length ≤ 8 := r2len.out
        by_cases hlt : j < r2.length
        · obtain ⟨g, cap, eg, hg, _⟩ := World.ownsRow.form hown (by rw [hml.out]; omega)
          simp only [Value.slice.injEq] at eg
          obtain ⟨rfl, _, rfl⟩ := eg
          have g3 := hown.cellAt j (by rw [hml.out]; omega)
          have g4 := hown.frozenAt j
          have HU := Lib.hid (inc_walk (m.getD j 0))
          have hx8 := u8_lt (m.getD j 0)
          generalize m.getD j 0 = y at *
          go_wp2
          go_roundw
          case rel => exact ⟨j + 1, m.set j (y + 1), by omega, by go_num, by show _ = _; rw [List.length_set]; exact hml.out, hown.stored j _ _ HU.out, hbel2.setCell (p := ⟨g, j, none⟩) hg _⟩
          case measure => simp [intOf]; omega
        · have hje : j = r2.length := by omega
          clear hown hml hv5 hlt hj
          have b6 := after b4 hbel2
          have X1 := K4.on hbel2
          have X2 := HK.out _ b6
          have X3 := B4.on hbel2
          have X4 := HB.out _ b6
          subst hje
          go_wp2_with fail
          refine (rsame_any k k v1 _ _ _ X1 X2).mono ?_
          rw [dec_self]
          rintro e w7 ⟨rfl, n7, rfl⟩
          go_wp2_with fail
          refine (rsame_any b b v2 _ (_) _ (X3.below (drewN_below _ _ n7)) (X4.below (drewN_below _ _ n7))).mono ?_
          rw [dec_self]
          rintro e w8 ⟨rfl, n8, rfl⟩
          go_wp2_with fail
          refine (HX.out _).mono ?_
          rintro e w9 ⟨rfl, hb9⟩
          go_wp2
          go_ret
          exact ⟨rfl, after (below_drewN b6 (n7 + n8)) hb9⟩
end Go.Proofs.Ytndkkkkfgihemaa
