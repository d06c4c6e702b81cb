
/-
  The walks of Split, of the program and of the reference.
-/
import Derived.Test.YtjoibonbmalbdaaLol
import Derived.Deep.RegionHeld3
namespace Go.Proofs.Ytjoibonbmalbdaa
set_option linter.unusedVariables false
set_option linter.unusedSimpArgs false
open Go.RowKit

set_option maxRecDepth 100000 in
theorem psplit_arg (v : Value) (n : Int) (w : World) (h : n < 1) : Calls Try.prog 55 #[v, .int .i64 n] w fun e w' => e = .returned (.tuple #[.slice none 0 0, .int .i64 1]) ∧ w = w' := by
  go_enter Try.func55, Try.ntmps55
  go_wp2
  go_ret2
  exact ⟨rfl, rfl⟩
theorem OB.more {w : World} {base base' : Nat} {v : Value} {l : List UInt8} (h : OB w base v l) (hb : base' ≤ base) : OB w base' v l := by
  obtain ⟨h1, h2⟩ := h
  refine ⟨h1, ?_⟩
  rcases h2 with h2 | ⟨g, cap, cur, hv, hg, r⟩
  · exact .inl h2
  · exact .inr ⟨g, cap, cur, hv, by omega, r⟩
theorem SL.drop {w : World} {B : Nat} {b o : Nat} {l : List UInt8} (h : Rd w B (some ⟨b, o, none⟩) l) (m : Nat) (hm : m < l.length) : Rd w B (some ⟨b, o + m, none⟩) (l.drop m) := fun _ => by
  obtain ⟨b', o', hA, hb, hc⟩ := h (by omega)
  simp only [Option.some.injEq, Addr.mk.injEq, and_true] at hA
  obtain ⟨rfl, rfl⟩ := hA
  refine ⟨b, o + m, rfl, hb, fun k hk => ?_⟩
  rw [List.length_drop] at hk
  rw [Nat.add_assoc, hc (m + k) (by omega)]
  simp [List.getD, List.getElem?_drop]

set_option maxRecDepth 100000 in
set_option maxHeartbeats 1600000 in
theorem psplit_ok (l : List UInt8) (v : Value) (n : Nat) (w : World) (hl : SL w w.heap.size v l) (hn : 1 ≤ n) (hn2 : n ≤ 9223372036854775807) (hs : l.length ≤ 100000) :
    Calls Try.prog 55 #[v, .int .i64 n] w fun e w' => ∃ v', e = .returned (.tuple #[v', .int .i64 0]) ∧ LL w' w'.heap.size v' (splitL l n) ∧ Below w.heap.size w w' := by
  obtain ⟨A1, c1, rfl, h11, h12, h13⟩ := hl
  unfold maxLen at h12
  go_enter Try.func55, Try.ntmps55
  go_wp2_with fail
  go_loopw [0, 6] (fun b o wr => ∃ (A : Option Addr) (c : Nat) (r : List UInt8) (ls : List (List UInt8)), b = .slice A r.length c ∧ r.length ≤ c ∧ c ≤ 9223372036854775807 ∧ r.length ≤ l.length ∧ Rd w w.heap.size A r ∧ OL wr w.heap.size o ls ∧ Below w.heap.size w wr ∧ Hid (splitL l n = ls ++ splitL r n) ∧ ls.length + r.length ≤ l.length) (fun b _ _ => lenV b)
  case atStart => exact ⟨A1, c1, l, [], rfl, h11, h12, Nat.le_refl _, h13, OL.nil _ _, Below.refl _ _, rfl, by simp⟩
  case round =>
    obtain ⟨A, c, r, ls, rfl, hc1, hc2, hrl, hrd, hown, hbel, hsp, hls⟩ := hrel
    rcases Nat.eq_zero_or_pos r.length with h0 | h0
    · have hr : r = [] := List.eq_nil_of_length_eq_zero h0
      subst hr
      go_wp2_with fail
      go_ret2
      refine ⟨_, rfl, ?_, hbel⟩
      rw [hsp.out, splitL_nil, List.append_nil]
      exact hown.ll
    · obtain ⟨b1, o1, rfl, hb1, hcc⟩ := hrd h0
      have hst := Lib.hid (splitL_step r n hn h0)
      obtain ⟨sz, hsz⟩ : ∃ sz, sz = min n r.length := ⟨_, rfl⟩
      have hmin : min (n : Int) (r.length : Int) = (sz : Int) := by omega
      have hz1 : 1 ≤ sz := by omega
      have hz2 : sz ≤ r.length := by omega
      have htk : r.take n = r.take sz := by
        rcases Nat.le_total n r.length with h | h
        · rw [hsz, Nat.min_eq_left h]
        · rw [hsz, Nat.min_eq_right h, List.take_length, List.take_of_length_le h]
      have hdr : r.drop n = r.drop sz := by
        rcases Nat.le_total n r.length with h | h
        · rw [hsz, Nat.min_eq_left h]
        · rw [hsz, Nat.min_eq_right h, List.drop_length, List.drop_eq_nil_of_le h]
      have hbs := hbel.size
      have hslr : SL wr wr.heap.size (.slice (some ⟨b1, o1, none⟩) r.length c) r := ⟨_, c, rfl, hc1, by simp only [maxLen]; omega, fun h => by obtain ⟨b, o, hA, hb, hc⟩ := hrd h; exact ⟨b, o, hA, by omega, fun k hk => (hbel.cell (p := ⟨b, o + k, none⟩) hb).trans (hc k hk)⟩⟩
      obtain ⟨q, hq⟩ : ∃ q, q = r.take sz := ⟨_, rfl⟩
      have hslq := hslr.take hz2
      rw [← hq] at hslq htk
      have hql : q.length ≤ 100000000 := by rw [hq]; simp; omega
      have HCL := Lib.hid (clone_own q (.slice (some ⟨b1, o1, none⟩) sz c) wr hslq hql)
      have HTK := Lib.hid htk
      have HDR := Lib.hid hdr
      have hlsb : ls.length ≤ 1000000 := by omega
      have hrl2 : (r.drop sz).length = r.length - sz := by simp
      have HRL := Lib.hid hrl2
      have HLS := Lib.hid hls
      clear hcc hsz htk hdr hslr hslq hq hrl2 hls
      by_cases hcs : c = sz
      · have hrs : r.length = sz := by omega
        have HRS := Lib.hid hrs
        clear hrs
        subst hcs
        go_wp2_with (first
          | (go_at_call 51; refine HCL.out.mono ?_; rintro e w2 ⟨v2, rfl, hv2, hb2⟩; obtain ⟨A2, c2, rfl⟩ := hv2.value)
          | (at_builtin; refine wpList_appL rfl (.tmp 17) (.tmp 22) rfl w2 w.heap.size u6 _ ls q w2.heap.size rfl rfl ((Below.refl _ _).alloc (Nat.le_refl _) _) (hown.later hb2) (OB.more hv2 hbs) (heap_alloc_new w2 _) hlsb (by have := hb2.size; omega) ?_; intro v3 w3 hv3 hb3))
        have hb3' : Below w.heap.size w w3 := (hbel.trans (hb2.mono hbs)).trans hb3
        have hsp' : splitL l n = (ls ++ [q]) ++ splitL [] n := by
          rw [hsp.out, hst.out, HTK.out, HDR.out, List.drop_eq_nil_of_le (by rw [HRS.out]; exact Nat.le_refl _), List.append_assoc]
          rfl
        go_roundw
        case rel => exact ⟨some ⟨b1, o1, none⟩, 0, [], ls ++ [q], rfl, by simp, by omega, by simp, fun h => absurd h (by simp), hv3, hb3', hsp', by have := HLS.out; simp; omega⟩
        case measure => simp only [lenV]; omega
      · go_wp2_with (first
          | (go_at_call 51; refine HCL.out.mono ?_; rintro e w2 ⟨v2, rfl, hv2, hb2⟩; obtain ⟨A2, c2, rfl⟩ := hv2.value)
          | (at_builtin; refine wpList_appL rfl (.tmp 17) (.tmp 22) rfl w2 w.heap.size u6 _ ls q w2.heap.size rfl rfl ((Below.refl _ _).alloc (Nat.le_refl _) _) (hown.later hb2) (OB.more hv2 hbs) (heap_alloc_new w2 _) hlsb (by have := hb2.size; omega) ?_; intro v3 w3 hv3 hb3))
        have hb3' : Below w.heap.size w w3 := (hbel.trans (hb2.mono hbs)).trans hb3
        have hsp' : splitL l n = (ls ++ [q]) ++ splitL (r.drop sz) n := by
          rw [hsp.out, hst.out, HTK.out, HDR.out, List.append_assoc]
          rfl
        have hrd' : Rd w w.heap.size (some ⟨b1, o1 + sz, none⟩) (r.drop sz) := by
          rcases Nat.lt_or_ge sz r.length with h | h
          · exact SL.drop hrd sz h
          · exact fun hp => absurd hp (by rw [HRL.out]; omega)
        go_roundw
        case rel => exact ⟨some ⟨b1, o1 + sz, none⟩, c - sz, r.drop sz, ls ++ [q], by rw [HRL.out], by rw [HRL.out]; omega, by omega, by rw [HRL.out]; omega, hrd', hv3, hb3', hsp', by rw [HRL.out]; have := HLS.out; simp; omega⟩
        case measure => simp only [lenV]; omega
end Go.Proofs.Ytjoibonbmalbdaa
