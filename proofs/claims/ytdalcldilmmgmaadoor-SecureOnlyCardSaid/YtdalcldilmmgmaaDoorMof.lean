
/-
  Layer 20: MAC of both.
-/
import Derived.Test.YtdalcldilmmgmaaDoorMoc
import Derived.Test.YtdalcldilmmgmaaDoorCig
namespace Go.Proofs.YtdalcldilmmgmaaDoor
set_option linter.unusedVariables false
set_option linter.unusedSimpArgs false
open Go.RowKit

theorem padL_len (d : List UInt8) : (padL d 8).length = 8 * (d.length / 8 + 1) := by
  have h := pad_room d.length 8 (by omega)
  simp only [padL, List.length_append, List.length_replicate, List.length_cons, List.length_nil]
  omega
/-- The MAC. -/
def macL (k iv d : List UInt8) : List UInt8 := (cbE k iv (padL d 8)).drop ((padL d 8).length - 8)
def fitM (k iv : List UInt8) : Int := if k.length ≠ 16 ∨ iv.length ≠ 8 then 1 else 0
theorem fitM_c (k iv d : List UInt8) : fitC k iv (padL d 8) = fitM k iv := by
  unfold fitC fitM
  have h := padL_len d
  have e : (padL d 8).length % 8 = 0 := by omega
  by_cases h1 : k.length = 16
  · by_cases h2 : iv.length = 8
    · rw [if_neg (by simp [h1, h2, e]), if_neg (by simp [h1, h2])]
    · rw [if_pos (by simp [h2]), if_pos (by simp [h2])]
  · rw [if_pos (by simp [h1]), if_pos (by simp [h1])]
theorem macL_len (k iv d : List UInt8) : (macL k iv d).length = 8 := by
  have h := padL_len d
  have h2 := cbE_len k iv (padL d 8) (by omega)
  rw [macL, List.length_drop, h2]
  omega
def macM (k iv d : List UInt8) : List UInt8 := if fitM k iv = 0 then macL k iv d else []

set_option maxRecDepth 100000 in
set_option maxHeartbeats 1600000 in
theorem pmac_any (k iv d : List UInt8) (vk vi vd : Value) (w : World) (hk : SL w w.heap.size vk k) (hi : SL w w.heap.size vi iv) (hd : SL w w.heap.size vd d) (hs : d.length ≤ 50000) :
    Calls Tryd.prog 59 #[vk, vi, vd] w (CiW (macM k iv d) (fitM k iv) w) := by
  have HP := Lib.hid (ppad_ok d vd 8 w hd (by omega) (by omega) (by omega))
  have hpl := padL_len d
  have HC := Lib.hid (fun W vp (hb : Below w.heap.size w W) (hp : SL W W.heap.size vp (padL d 8)) => pcbe_any k iv (padL d 8) vk vi vp W (hk.on hb) (hi.on hb) hp (by omega))
  rw [fitM_c] at HC
  by_cases hf : fitM k iv = 0
  · rw [macM, if_pos hf]
    rw [if_pos hf, hf] at HC
    have hl := cbE_len k iv (padL d 8) (by omega)
    have HM : Hid (macL k iv d = (cbE k iv (padL d 8)).drop ((padL d 8).length - 8)) := rfl
    rw [hf]
    generalize macL k iv d = r at *
    generalize cbE k iv (padL d 8) = y at *
    have HCL := Lib.hid (fun W v (hb : Below w.heap.size w W) (h : SL W W.heap.size v r) (hr : r.length ≤ 100000000) => clone_own r v W h hr)
    obtain ⟨n, hn⟩ : ∃ n, n = d.length / 8 := ⟨_, rfl⟩
    rw [← hn] at hpl
    have hrl : r.length = 8 := by rw [HM.out, List.length_drop, hl]; omega
    have hn5 : n ≤ 10000 := by omega
    have HYL : Hid (y.length = 8 * n + 8) := by show _ = _; omega
    have HRL := Lib.hid hrl
    have HR2 : Hid (r = y.drop (8 * n)) := by show _ = _; rw [HM.out, hpl, show 8 * (n + 1) - 8 = 8 * n by omega]
    obtain ⟨A1, c1, rfl, h11, h12, h13⟩ := hk
    obtain ⟨A2, c2, rfl, h21, h22, h23⟩ := hi
    obtain ⟨A3, c3, rfl, h31, h32, h33⟩ := hd
    clear h13 h23 h33 hl hrl hf hn hpl HM
    go_enter Tryd.func59, Tryd.ntmps59
    go_wp2_with fail
    refine HP.out.mono ?_
    rintro e w1 ⟨v1, rfl, hv1, hb1⟩
    go_wp2_with fail
    refine (HC.out _ _ hb1 hv1).mono ?_
    rintro e w2 ⟨v2, rfl, hv2, hb2⟩
    have b2 := after hb1 hb2
    obtain ⟨A6, c6, rfl, h61, h62, h63⟩ := hv2.sl
    rw [HYL.out] at h61
    have hpy : 0 < y.length := by rw [HYL.out]; omega
    obtain ⟨b6, o6, rfl, hb6, hc6⟩ := h63 hpy
    have h4 : SL w2 w2.heap.size (.slice (some ⟨b6, o6 + 8 * n, none⟩) 8 (c6 - 8 * n)) r := by
      rw [HR2.out]
      exact ⟨some ⟨b6, o6 + 8 * n, none⟩, c6 - 8 * n, by rw [List.length_drop, HYL.out]; congr 1; omega, by rw [List.length_drop, HYL.out]; omega, by omega, Rd.drop h63 (8 * n) (by rw [HYL.out]; omega)⟩
    have H4 := Lib.hid h4
    rw [HYL.out]
    clear h4 h63 hc6 hpy
    unfold maxLen at h62
    obtain ⟨m, hm⟩ : ∃ m, m = 8 * n := ⟨_, rfl⟩
    rw [← hm] at h61 H4 ⊢
    have ix1 : ((m + 8 : Nat) : Int) - 8 = (m : Int) := by omega
    have ix2 : (m : Int) ≤ ((m + 8 : Nat) : Int) := by omega
    have hm9 : m ≤ 100000 := by omega
    clear hm
    go_wp2_with fail
    refine (HCL.out _ _ b2 (by first | exact H4.out | (rw [← HRL.out] at H4; exact H4.out)) (by rw [HRL.out]; omega)).mono ?_
    rintro e w3 ⟨v3, rfl, hv3, hb3⟩
    go_wp2
    go_ret2
    exact ⟨_, rfl, hv3.sl, after b2 hb3⟩
  · rw [macM, if_neg hf]
    rw [if_neg hf] at HC
    have hn : (fitM k iv != 0) = true := by simp [hf]
    generalize fitM k iv = E at *
    obtain ⟨A1, c1, rfl, h11, h12, h13⟩ := hk
    obtain ⟨A2, c2, rfl, h21, h22, h23⟩ := hi
    obtain ⟨A3, c3, rfl, h31, h32, h33⟩ := hd
    clear h13 h23 h33 hf hpl
    go_enter Tryd.func59, Tryd.ntmps59
    go_wp2_with fail
    refine HP.out.mono ?_
    rintro e w1 ⟨v1, rfl, hv1, hb1⟩
    go_wp2_with fail
    refine (HC.out _ _ hb1 hv1).mono ?_
    rintro e w2 ⟨v2, rfl, hv2, hb2⟩
    go_wp2
    go_ret2
    exact ⟨_, rfl, SL.nil _ _ _ _ (Nat.zero_le _), after hb1 hb2⟩
end Go.Proofs.YtdalcldilmmgmaaDoor
