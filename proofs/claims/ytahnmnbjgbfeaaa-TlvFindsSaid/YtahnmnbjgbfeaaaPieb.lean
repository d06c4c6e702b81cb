/-
  The walk of the reference's Split.
-/
import Derived.Test.YtahnmnbjgbfeaaaPie
namespace Go.Proofs.Ytahnmnbjgbfeaaa
set_option linter.unusedVariables false
set_option linter.unusedSimpArgs false
open Go.RowKit

theorem take_drop_snoc (l : List UInt8) (j m : Nat) (h : j + m < l.length) : (l.drop j).take (m + 1) = (l.drop j).take m ++ [l.getD (j + m) 0] := by
  rw [take_snoc (l.drop j) m (by simp; omega)]
  congr 2
  simp [List.getD, List.getElem?_drop]

set_option maxRecDepth 100000 in
set_option maxHeartbeats 3200000 in
theorem rsplit_ok (l : List UInt8) (v : Value) (n : Nat) (w : World) (hl : SL w w.heap.size v l) (hn : 1 ≤ n) (hn2 : n ≤ 9223372036854775807) (hs : l.length ≤ 100000) :
    Calls Try.prog 42 #[v, .int .i64 n] w fun e w' => ∃ v', e = .returned (.tuple #[v', .int .i64 0]) ∧ LL w' w'.heap.size v' (splitL l n) ∧ Below w.heap.size w w' := by
  obtain ⟨A1, c1, rfl, h11, h12, h13⟩ := hl
  unfold maxLen at h12
  go_enter Try.func42, Try.ntmps42
  go_wp2_with fail
  go_loopw [6, 7, 8] (fun o nv i wr => ∃ (j m : Nat) (ls : List (List UInt8)) (wo : World), i = .int .i64 ((j + m : Nat) : Int) ∧ j + m ≤ l.length ∧ (m < n ∧ (j + m = l.length → m = 0)) ∧ ls.length ≤ j ∧
      OL wo w.heap.size o ls ∧ Below w.heap.size w wo ∧ OB wr wo.heap.size nv ((l.drop j).take m) ∧ Below wo.heap.size wo wr ∧ Hid (splitL l n = ls ++ splitL (l.drop j) n)) (fun _ _ i _ => l.length - (intOf i).toNat)
  case atStart => exact ⟨0, 0, [], w, rfl, Nat.zero_le _, ⟨by omega, fun _ => rfl⟩, Nat.le_refl _, OL.nil _ _, Below.refl _ _, OB.nil _ _, Below.refl _ _, rfl⟩
  case round =>
    obtain ⟨j, m, ls, wo, rfl, hjm, ⟨hmn, hmz⟩, hlj, hol, hbo, hob, hbel, hsp⟩ := hrel
    have HMZ := Lib.hid hmz
    clear hmz
    obtain ⟨k, hk⟩ : ∃ k, k = j + m := ⟨_, rfl⟩
    rw [← hk] at hjm ⊢
    by_cases hkl : k < l.length
    · obtain ⟨b, o, rfl, hb, hc⟩ := h13 (by omega)
      have hs1 := hbo.size
      have hs2 := hbel.size
      have g1 := (hbel.cell (p := ⟨b, o + k, none⟩) (show b < wo.heap.size by omega)).trans ((hbo.cell (p := ⟨b, o + k, none⟩) hb).trans (hc k hkl))
      have htk := take_drop_snoc l j m (by omega)
      rw [← hk] at htk
      have hlen : ((l.drop j).take m).length = m := by simp; omega
      obtain ⟨q, hq⟩ : ∃ q, q = (l.drop j).take m := ⟨_, rfl⟩
      rw [← hq] at hob htk hlen
      have hq0 : q.length ≤ 1000000 := by omega
      have hlsb : ls.length ≤ 1000000 := by omega
      have HT := Lib.hid htk
      have HL := Lib.hid hlen
      have HK := Lib.hid hk
      have hkm : m ≤ k := by omega
      clear hc htk hq hk hlen
      by_cases hlast : m + 1 = n ∨ k + 1 = l.length
      · have hnow : (l.drop j).take n = q ++ [l.getD k 0] ∧ splitL (l.drop (j + (m + 1))) n = splitL (l.drop (j + n)) n := by
          rcases hlast with h | h
          · rw [← HT.out, ← h]; exact ⟨rfl, rfl⟩
          · have hd : (l.drop j).length = m + 1 := by have := HK.out; simp; omega
            rw [← HT.out]
            refine ⟨by rw [List.take_of_length_le (by omega), List.take_of_length_le (by omega)], ?_⟩
            rw [List.drop_eq_nil_of_le (by have := HK.out; omega), List.drop_eq_nil_of_le (by have := HK.out; omega)]
        have hst := splitL_step (l.drop j) n hn (by have := HK.out; simp; omega)
        have hsp' : splitL l n = (ls ++ [q ++ [l.getD k 0]]) ++ splitL (l.drop (j + (m + 1))) n := by
          rw [hsp.out, hst, hnow.1, hnow.2, List.drop_drop, List.append_assoc]
          rfl
        have HSP := Lib.hid hsp'
        have hend : Hid (k + 1 = j + (m + 1)) := by have := HK.out; show _ = _; omega
        have hgd : k < l.length := hkl
        clear hnow hst hsp'
        by_cases hmn1 : m + 1 = n
        · have hta : ((q.length : Int) + 1 == (n : Int)) = true := by have := HL.out; rw [beq_iff_eq]; omega
          clear hlast hmn1
          go_wp2_with (first
            | (at_builtin; refine wpList_app1 rfl (.tmp 17) (.tmp 22) rfl wr wo.heap.size u7 q (l.getD k 0) _ wr.heap.size rfl rfl ((Below.refl _ _).alloc (Nat.le_refl _) _) hob (heap_alloc_new wr _) (by rw [gd hkl]) (by omega) hs2 ?_; intro g2 cap2 w2 hob2 hb2)
            | (at_builtin; refine wpList_appL rfl (.tmp 35) (.tmp 37) rfl w2 w.heap.size u6 _ ls (q ++ [l.getD k 0]) w2.heap.size rfl rfl ((Below.refl _ _).alloc (Nat.le_refl _) _) (hol.later (hbel.trans hb2)) (OB.more hob2 hs1) (heap_alloc_new w2 _) hlsb (by have := hb2.size; omega) ?_; intro v3 w3 hv3 hb3))
          have hs3 := hb2.size
          have hbw : Below w.heap.size w w3 := (hbo.trans ((hbel.trans hb2).mono hs1)).trans hb3
          go_roundw
          case rel => exact ⟨j + (m + 1), 0, ls ++ [q ++ [l.getD k 0]], w3, by have := hend.out; go_num, by have := hend.out; omega, ⟨by omega, fun _ => rfl⟩, by simp; omega, hv3, hbw, by simpa using OB.nil _ _, Below.refl _ _, HSP.out⟩
          case measure => simp [intOf]; omega
        · have hta : ((q.length : Int) + 1 == (n : Int)) = false := by have := HL.out; rw [beq_eq_false_iff_ne]; omega
          have htb : ((k : Int) == (l.length : Int) - 1) = true := by rw [beq_iff_eq]; omega
          clear hlast hmn1
          go_wp2_with (first
            | (at_builtin; refine wpList_app1 rfl (.tmp 17) (.tmp 22) rfl wr wo.heap.size u7 q (l.getD k 0) _ wr.heap.size rfl rfl ((Below.refl _ _).alloc (Nat.le_refl _) _) hob (heap_alloc_new wr _) (by rw [gd hkl]) (by omega) hs2 ?_; intro g2 cap2 w2 hob2 hb2)
            | (at_builtin; refine wpList_appL rfl (.tmp 35) (.tmp 37) rfl w2 w.heap.size u6 _ ls (q ++ [l.getD k 0]) w2.heap.size rfl rfl ((Below.refl _ _).alloc (Nat.le_refl _) _) (hol.later (hbel.trans hb2)) (OB.more hob2 hs1) (heap_alloc_new w2 _) hlsb (by have := hb2.size; omega) ?_; intro v3 w3 hv3 hb3))
          have hs3 := hb2.size
          have hbw : Below w.heap.size w w3 := (hbo.trans ((hbel.trans hb2).mono hs1)).trans hb3
          go_roundw
          case rel => exact ⟨j + (m + 1), 0, ls ++ [q ++ [l.getD k 0]], w3, by have := hend.out; go_num, by have := hend.out; omega, ⟨by omega, fun _ => rfl⟩, by simp; omega, hv3, hbw, by simpa using OB.nil _ _, Below.refl _ _, HSP.out⟩
          case measure => simp [intOf]; omega
      · have hta : ((q.length : Int) + 1 == (n : Int)) = false := by have := HL.out; rw [beq_eq_false_iff_ne]; omega
        have htb : ((k : Int) == (l.length : Int) - 1) = false := by rw [beq_eq_false_iff_ne]; omega
        have hm1 : m + 1 < n := by omega
        have hk1 : ¬ k + 1 = l.length := by omega
        have hend : Hid (k + 1 = j + (m + 1)) := by have := HK.out; show _ = _; omega
        have HK1 := Lib.hid hk1
        clear hlast hk1
        go_wp2_with (first
          | (at_builtin; refine wpList_app1 rfl (.tmp 17) (.tmp 22) rfl wr wo.heap.size u7 q (l.getD k 0) _ wr.heap.size rfl rfl ((Below.refl _ _).alloc (Nat.le_refl _) _) hob (heap_alloc_new wr _) (by rw [gd hkl]) (by omega) hs2 ?_; intro g2 cap2 w2 hob2 hb2)
          | fail)
        go_roundw
        case rel => exact ⟨j, m + 1, ls, wo, by have := hend.out; go_num, by have := hend.out; omega, ⟨hm1, fun h => absurd (hend.out.trans h) HK1.out⟩, hlj, hol, hbo, by rw [HT.out]; exact hob2, hbel.trans hb2, hsp⟩
        case measure => simp [intOf]; omega
    · have hke : k = l.length := by omega
      have hm0 := HMZ.out (by rw [← hk, hke])
      have HK := Lib.hid hk
      have HKE := Lib.hid hke
      have HM0 := Lib.hid hm0
      have hkge : l.length ≤ k := by omega
      clear hk hke hm0
      go_wp2_with fail
      go_ret2
      refine ⟨_, rfl, ?_, hbo.trans (hbel.mono hbo.size)⟩
      have e : splitL l n = ls := by
        rw [hsp.out, List.drop_eq_nil_of_le (by have := HK.out; have := HM0.out; have := HKE.out; omega), splitL_nil, List.append_nil]
      rw [e]
      exact (hol.later hbel).ll
end Go.Proofs.Ytahnmnbjgbfeaaa
