
/-
  The walks of Append and Remove, of the program and of the reference, and of the chapter's example.
-/
import Derived.Test.YtnbggokmiokhlaaDoorSum
namespace Go.Proofs.YtnbggokmiokhlaaDoor
set_option linter.unusedVariables false
set_option linter.unusedSimpArgs false
open Go.RowKit

/-- Two byte slices in a block of their own. -/
theorem LL.two (w : World) (u1 u2 : Value) (l1 l2 : List UInt8) (h1 : SL w w.heap.size u1 l1) (h2 : SL w w.heap.size u2 l2) :
    LL (w.alloc (.cells #[u1, u2] 24)) (w.alloc (.cells #[u1, u2] 24)).heap.size (.slice (some ⟨w.heap.size, 0, none⟩) 2 2) [l1, l2] := by
  have hb := alloc_below w (.cells #[u1, u2] 24)
  refine ⟨some ⟨w.heap.size, 0, none⟩, 2, [u1, u2], rfl, Nat.le_refl _, by unfold maxLen; omega, rfl, fun _ => ⟨w.heap.size, 0, rfl, by rw [alloc_size]; omega, fun k hk => ?_⟩, fun k hk => ?_⟩
  · have hk' : k = 0 ∨ k = 1 := by simp at hk; omega
    rcases hk' with rfl | rfl
    · exact (cell_of_row _ w.heap.size 0 #[u1, u2] 24 (0, 0) (heap_alloc_new w _)).trans rfl
    · exact (cell_of_row _ w.heap.size 1 #[u1, u2] 24 (0, 0) (heap_alloc_new w _)).trans rfl
  · have hk' : k = 0 ∨ k = 1 := by simp at hk; omega
    rcases hk' with rfl | rfl
    · exact h1.on hb
    · exact h2.on hb

theorem beq_any (a b : List UInt8) (v u : Value) (w : World) (B : Nat) (ha : SL w B v a) (hb : SL w B u b) :
    Calls Tryd.prog 56 #[v, u] w fun e w' => e = .returned (.bool (a == b)) ∧ w = w' := by
  obtain ⟨A1, c1, rfl, h11, h12, h13⟩ := ha
  obtain ⟨A2, c2, rfl, h21, h22, h23⟩ := hb
  have hc := Tryd.bytes_Equal_all A1 A2 a.length c1 b.length c2 _ _ w (by simp) (by simp) (SL.bytesIn h13) (SL.bytesIn h23)
  rw [bytesOf_map, bytesOf_map] at hc
  exact hc.mono fun e w' ⟨h1, h2⟩ => ⟨h1, h2.symm⟩

def appL (k : Int) (l : List UInt8) : List UInt8 := if sumE k = 0 then l ++ sumL k l else []
theorem sumL_len (k : Int) (l : List UInt8) : (sumL k l).length = sizeK k := by
  unfold sumL sizeK
  split
  · rfl
  · split
    · rfl
    · rfl
theorem sizeK_le (k : Int) : sizeK k ≤ 2 := by unfold sizeK; split <;> (try split) <;> omega
theorem sumE_cases (k : Int) : (sumE k = 0 ∧ 0 < sizeK k) ∨ (sumE k = 1 ∧ sizeK k = 0) := by
  unfold sumE sizeK
  split
  · exact .inl ⟨rfl, by omega⟩
  · split
    · exact .inl ⟨rfl, by omega⟩
    · exact .inr ⟨rfl, rfl⟩

/-- What Append returns. -/
def AppR (k : Int) (l : List UInt8) (w : World) (e : Ending) (w' : World) : Prop :=
  ∃ v', e = .returned (.tuple #[v', .int .i64 (sumE k)]) ∧ SL w' w'.heap.size v' (appL k l) ∧ Below w.heap.size w w'

set_option maxRecDepth 100000 in
theorem papp_any (k : Int) (l : List UInt8) (v : Value) (w : World) (h : SL w w.heap.size v l) (hT : Tb w) (hl : l.length ≤ 1000) :
    Calls Tryd.prog 61 #[.int .i64 k, v] w (AppR k l w) := by
  have HC := Lib.hid (psum_any k l v w h hT)
  rcases sumE_cases k with ⟨hs, h0⟩ | ⟨hs, h0⟩
  · have HA : Hid (appL k l = l ++ sumL k l) := by show _ = _; rw [appL, if_pos hs]
    have HE := Lib.hid hs
    have hlen := sumL_len k l
    have hk := sizeK_le k
    have HJ : Hid (∀ (u1 u2 : Value) (W : World), SL W W.heap.size u1 l → SL W W.heap.size u2 (sumL k l) → Calls Tryd.prog 84 #[.slice (some ⟨W.heap.size, 0, none⟩) 2 2] (W.alloc (.cells #[u1, u2] 24)) fun e w' => ∃ v', e = .returned v' ∧ SL w' w'.heap.size v' (l ++ sumL k l) ∧ Below (W.alloc (.cells #[u1, u2] 24)).heap.size (W.alloc (.cells #[u1, u2] 24)) w') := by
      intro u1 u2 W h1 h2
      have := pjoin_any [l, sumL k l] _ _ (LL.two W u1 u2 l (sumL k l) h1 h2) (by simp) (by simp [Lib.lens]; omega)
      simpa using this
    have H := Lib.hid h
    clear hs h0 h hT hlen
    go_enter Tryd.func61, Tryd.ntmps61
    go_wp2_with fail
    refine HC.out.mono ?_
    rintro e w1 ⟨v1, rfl, hv1, hb1⟩
    have hv := H.out.on hb1
    have HV := Lib.hid hv
    have HV1 := Lib.hid hv1
    obtain ⟨A, c, rfl, _, _, _⟩ := hv
    obtain ⟨A1, c1, rfl, _, _, _⟩ := hv1
    rw [HE.out]
    go_wp2_with fail
    refine (HJ.out _ _ _ HV.out HV1.out).mono ?_
    rintro e w2 ⟨v2, rfl, hv2, hb2⟩
    go_wp2_with fail
    go_ret2
    exact ⟨_, by rw [HE.out]; rfl, by rw [HA.out]; exact hv2, hb1.trans (((alloc_below _ _).trans (hb2.mono (by rw [alloc_size]; omega))).mono hb1.size)⟩
  · have HA : Hid (appL k l = []) := by show _ = _; rw [appL, if_neg (by omega)]
    have HE := Lib.hid hs
    clear hs h0 h hT
    go_enter Tryd.func61, Tryd.ntmps61
    go_wp2_with fail
    refine HC.out.mono ?_
    rintro e w1 ⟨v1, rfl, hv1, hb1⟩
    rw [HE.out]
    go_wp2_with fail
    go_ret2
    exact ⟨_, by rw [HE.out]; rfl, by rw [HA.out]; exact SL.nil _ _ _ _ (Nat.zero_le _), hb1⟩

set_option maxRecDepth 100000 in
set_option maxHeartbeats 800000 in
theorem rapp_any (k : Int) (l : List UInt8) (v : Value) (w : World) (h : SL w w.heap.size v l) (hl : l.length ≤ 1000) :
    Calls Tryd.prog 73 #[.int .i64 k, v] w (AppR k l w) := by
  have HC := Lib.hid (rsum_any k l v w h)
  rcases sumE_cases k with ⟨hs, h0⟩ | ⟨hs, h0⟩
  · have HA : Hid (appL k l = l ++ sumL k l) := by show _ = _; rw [appL, if_pos hs]
    have HE := Lib.hid hs
    have hlen := sumL_len k l
    have hk := sizeK_le k
    have HLB : Hid (l.length + (sumL k l).length ≤ 100000000) := by show _ ≤ _; omega
    have H := Lib.hid h
    clear hs h0 h hlen
    go_enter Tryd.func73, Tryd.ntmps73
    go_wp2_with fail
    refine HC.out.mono ?_
    rintro e w1 ⟨v1, rfl, hv1, hb1⟩
    have hv := H.out.on hb1
    obtain ⟨A, c, rfl, k1, k2, k3⟩ := hv
    obtain ⟨A1, c1, rfl, j1, j2, j3⟩ := hv1
    have K3 := Lib.hid k3
    have J3 := Lib.hid j3
    clear k3 j3
    rw [HE.out]
    go_wp2_with (first
      | (at_builtin; refine wpList_appS rfl (.tmp 18) (.tmp 19) rfl w1 w1.heap.size (.slice none 0 0) [] l A c rfl rfl (Below.refl _ _) (OB.nil _ _) (fun hp => by obtain ⟨b, o, hA, hb, hc⟩ := K3.out hp; exact ⟨b, o, hA, hc⟩) (by simp; omega) (Nat.le_refl _) ?_; intro v2 w2 hv2 hb2; obtain ⟨A2, c2, rfl⟩ := hv2.value)
      | (at_builtin; refine wpList_appS rfl (.tmp 21) (.tmp 22) rfl w2 w1.heap.size _ ([] ++ l) (sumL k l) A1 c1 rfl rfl (Below.refl _ _) hv2 (fun hp => by obtain ⟨b, o, hA, hb, hc⟩ := J3.out hp; exact ⟨b, o, hA, fun k' hk' => (hb2.cell (p := ⟨b, o + k', none⟩) hb).trans (hc k' hk')⟩) (by have := HLB.out; simp only [List.nil_append]; omega) hb2.size ?_; intro v3 w3 hv3 hb3))
    go_ret2
    exact ⟨_, by rw [HE.out]; rfl, by rw [HA.out]; exact hv3.sl, hb1.trans ((hb2.trans hb3).mono hb1.size)⟩
  · have HA : Hid (appL k l = []) := by show _ = _; rw [appL, if_neg (by omega)]
    have HE := Lib.hid hs
    clear hs h0 h
    go_enter Tryd.func73, Tryd.ntmps73
    go_wp2_with fail
    refine HC.out.mono ?_
    rintro e w1 ⟨v1, rfl, hv1, hb1⟩
    rw [HE.out]
    go_wp2_with fail
    go_ret2
    exact ⟨_, by rw [HE.out]; rfl, by rw [HA.out]; exact SL.nil _ _ _ _ (Nat.zero_le _), hb1⟩
end Go.Proofs.YtnbggokmiokhlaaDoor
