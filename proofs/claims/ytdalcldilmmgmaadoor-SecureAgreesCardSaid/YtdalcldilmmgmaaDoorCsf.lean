/-
  A turn: a command is protected and accepted, and its response likewise, whatever the level.
-/
import Derived.Test.YtdalcldilmmgmaaDoorMgf
import Derived.Test.YtdalcldilmmgmaaDoorCse
namespace Go.Proofs.YtdalcldilmmgmaaDoor
set_option linter.unusedVariables false
set_option linter.unusedSimpArgs false
open Go.RowKit

/-- The command as it is transmitted, and as it is accepted. -/
def agY (S : Ch) (x : Cm) (n : Nat) : Cm := if hasB S.lvl 1 = true then wrY S x n else x
def agZ (S : Ch) (x : Cm) (n : Nat) : Cm := ⟨x.cla, x.ins, x.p1, x.p2, x.data, x.le, (agY S x n).long⟩
theorem agY_le (S : Ch) (x : Cm) (n : Nat) : (agY S x n).data.length ≤ x.data.length + 16 := by
  unfold agY
  split
  · exact wrD_le S x n
  · omega
theorem agY_8 (S : Ch) (x : Cm) (n : Nat) (h : hasB S.lvl 1 = true) : 8 ≤ (agY S x n).data.length := by
  unfold agY
  rw [if_pos h]
  have : (wrY S x n).data.length = (wrB S x n).length + 8 := wrD_len S x n
  omega
theorem dec_encB (s : Ch) (bit : Int) (iv d : List UInt8) (he : s.enc.length = 16) (hiv : iv.length = 8) : decF s bit iv (encF s bit iv d) = some d := by
  unfold decF
  by_cases h : hasB s.lvl bit = true ∧ d.length ≠ 0
  · have hp : (padL d 8).length = 8 * ((padL d 8).length / 8) := by rw [padL_len]; omega
    have hl := cbE_len s.enc iv (padL d 8) hp
    have h0 : (padL d 8).length ≠ 0 := by rw [padL_len]; omega
    rw [encF, if_pos h, if_pos ⟨h.1, by rw [hl]; exact h0⟩]
    have hf : fitC s.enc iv (cbE s.enc iv (padL d 8)) = 0 := by
      unfold fitC
      rw [if_neg (by rw [hl, not_or, not_or, Decidable.not_not, Decidable.not_not, Decidable.not_not]; exact ⟨he, hiv, by omega⟩)]
    rw [if_pos hf, cbD_cbE _ _ _ hiv hp]
    exact unpadL_padL d 8
  · rw [encF, if_neg h, if_neg h]
section
variable {S : Ch} {x : Cm} {n : Nat} (o : Okc S n) (hn : n ≤ 1000) (hE : wrE S x = 0) (hl : x.data.length ≤ 1984)
include o hn hE hl in
theorem ag_wrap (g : Nat) (A : Option Addr) (k : Nat) (w : World) (h : CH w g S) (hd : SL w w.heap.size (.slice A x.data.length k) x.data) :
    Calls Tryd.prog 10 #[.pointer (some ⟨g, 0, none⟩), x.val (.slice A x.data.length k)] w (WRP g S (agY S x n) w) := by
  unfold agY
  by_cases hL : hasB S.lvl 1 = true
  · rw [if_pos hL]
    exact pWrap_mac g S x A k n w h o hn hL hE hd hl
  · rw [if_neg hL]
    have hL2 : hasB S.lvl 1 = false := by simpa using hL
    obtain ⟨N, hN, hN6⟩ := le_nat (wrE_zero hE).1
    exact pWrap_ok g S x x A x.data.length k w h o.cv ⟨by rw [o.cnt]; omega, by rw [o.cnt]; omega⟩
      (fun W hW => pwrap_plain g S x A k W (h.below hW) (by rw [hN]; omega) hE hL2 (hd.on hW) (by omega)) (by omega) (fun q => absurd q hL)
include o hn hE hl in
theorem ag_unwrap (g : Nat) (A : Option Addr) (k : Nat) (w : World) (h : CH w g S) (hd : SL w w.heap.size (.slice A (agY S x n).data.length k) (agY S x n).data) :
    Calls Tryd.prog 11 #[.pointer (some ⟨g, 0, none⟩), (agY S x n).val (.slice A (agY S x n).data.length k)] w (UWP g S (agY S x n) (agZ S x n) w) := by
  have hyl := agY_le S x n
  by_cases hL : hasB S.lvl 1 = true
  · have hr := rt_any S S x n o.enc o.cls hE hl
    have e : agY S x n = wrY S x n := by unfold agY; rw [if_pos hL]
    have e2 : agZ S x n = unY (wrY S x n) x.data := by rw [hr.un]; unfold agZ; rw [e]
    rw [e2]
    rw [e] at hd hyl ⊢
    exact pUnwrap_mac g S x (wrY S x n) A k n w h o hn hL hr hd (by omega)
  · have hL2 : hasB S.lvl 1 = false := by simpa using hL
    obtain ⟨h0, hs⟩ := wrE_zero hE
    obtain ⟨N, hN, hN6⟩ := le_nat h0
    have e : agY S x n = x := by unfold agY; rw [if_neg hL]
    have e2 : agZ S x n = x := by unfold agZ; rw [e]
    have hu : unE S x = 0 := by unfold unE; rw [if_neg (by rw [h0]; simp), if_neg (by rw [hs]; simp)]
    rw [e2]
    rw [e] at hd ⊢
    exact pUnwrap_ok g S x x A k w h o.cv ⟨by rw [o.cnt]; omega, by rw [o.cnt]; omega⟩
      (fun W hW => punwrap_plain g S x A k W (h.below hW) (by rw [hN]; omega) hu hL2 (hd.on hW) (by omega)) hd (by omega) (fun q => absurd q hL)
end
/-- The response as it is transmitted. -/
def asY (S : Ch) (r : Rs) (n : Nat) : Rs := if hasB S.lvl 16 = true then seY S r n else r
theorem asY_sw (S : Ch) (r : Rs) (n : Nat) : (asY S r n).sw = r.sw := by unfold asY; split <;> rfl
theorem ckE_zero {S : Ch} {r : Rs} (h : ckE S r = 0) : S.exp = true ∧ ∃ N : Nat, r.sw = (N : Int) ∧ N ≤ 65535 := by
  unfold ckE at h
  split at h
  · simp at h
  · rename_i h1
    split at h
    · simp at h
    · rename_i h2
      exact ⟨by simpa using h1, r.sw.toNat, by omega, by omega⟩
section
variable {S : Ch} {r : Rs} {n : Nat} (o : Okc S n) (hn : n ≤ 1000) (hE : ckE S r = 0) (hl : r.data.length ≤ 1984)
include o hn hE hl in
theorem as_seal (g : Nat) (A : Option Addr) (k : Nat) (w : World) (h : CH w g S) (hd : SL w w.heap.size (.slice A r.data.length k) r.data) :
    Calls Tryd.prog 14 #[.pointer (some ⟨g, 0, none⟩), r.val (.slice A r.data.length k)] w (SLP g S (asY S r n) w) := by
  obtain ⟨_, N, hN, hN6⟩ := ckE_zero hE
  unfold asY
  by_cases hL : hasB S.lvl 16 = true
  · rw [if_pos hL]
    exact pSeal_ok g S r (seY S r n) A r.data.length k w h o.cv (fun W hW => pseal_mac g S r A k n N W (h.below hW) hN hN6 hE hL o.enc o.rmac o.cv o.cnt (by omega) (hd.on hW) (by omega))
  · rw [if_neg hL]
    exact pSeal_ok g S r r A r.data.length k w h o.cv (fun W hW => pseal_plain g S r A k W (h.below hW) hE (by simpa using hL) (hd.on hW) (by omega))
theorem seB_le (S : Ch) (r : Rs) (n : Nat) : (seB S r n).length ≤ r.data.length + 8 := encF_le S 32 (ivF S.enc n 128) r.data (ivF_len ..)
theorem seY_len (S : Ch) (r : Rs) (n : Nat) : (seY S r n).data.length = (seB S r n).length + 8 := by
  have : (rmF S r.sw (seB S r n)).length = 8 := macL_len _ _ _
  show (seB S r n ++ rmF S r.sw (seB S r n)).length = _
  rw [List.length_append, this]
theorem seY_take (S : Ch) (r : Rs) (n : Nat) : (seY S r n).data.take ((seY S r n).data.length - 8) = seB S r n := by
  rw [seY_len, Nat.add_sub_cancel]
  show (seB S r n ++ rmF S r.sw (seB S r n)).take _ = _
  rw [List.take_append_of_le_length (Nat.le_refl _), List.take_length]
theorem seY_drop (S : Ch) (r : Rs) (n : Nat) : (seY S r n).data.drop ((seY S r n).data.length - 8) = rmF S r.sw (seB S r n) := by
  rw [seY_len, Nat.add_sub_cancel]
  show (seB S r n ++ rmF S r.sw (seB S r n)).drop _ = _
  rw [List.drop_append_of_le_length (Nat.le_refl _), List.drop_length, List.nil_append]
include o hn hE hl in
theorem as_open (g : Nat) (A : Option Addr) (k : Nat) (w : World) (h : CH w g S) (hd : SL w w.heap.size (.slice A (asY S r n).data.length k) (asY S r n).data) :
    Calls Tryd.prog 15 #[.pointer (some ⟨g, 0, none⟩), (asY S r n).val (.slice A (asY S r n).data.length k)] w (SLP g S r w) := by
  obtain ⟨_, N, hN, hN6⟩ := ckE_zero hE
  by_cases hL : hasB S.lvl 16 = true
  · have e : asY S r n = seY S r n := by unfold asY; rw [if_pos hL]
    have hb := seB_le S r n
    have hyl := seY_len S r n
    have hE2 : ckE S (seY S r n) = 0 := hE
    rw [e] at hd ⊢
    refine pOpen_ok g S (seY S r n) r A (seY S r n).data.length k w h o.cv (fun W hW => ?_)
    exact popen_ok g S (seY S r n) A k n N W (h.below hW) hN hN6 hE2 hL o.rmac o.cv o.enc o.cnt (by omega) (hd.on hW) (by omega) (by omega) (by rw [seY_drop, seY_take]; rfl) r.data (by rw [seY_take]; exact dec_encB S 32 _ _ o.enc (ivF_len ..))
  · have e : asY S r n = r := by unfold asY; rw [if_neg hL]
    rw [e] at hd ⊢
    exact pOpen_ok g S r r A r.data.length k w h o.cv (fun W hW => popen_plain g S r A k W (h.below hW) hE (by simpa using hL) (hd.on hW) (by omega))
end
/-- Seal of a response that cannot be one. -/
theorem as_bad {S : Ch} {r : Rs} {n : Nat} (o : Okc S n) (hE : ckE S r ≠ 0) (g : Nat) (A : Option Addr) (m k : Nat) (w : World) (h : CH w g S) (ht : ET w) :
    Calls Tryd.prog 14 #[.pointer (some ⟨g, 0, none⟩), r.val (.slice A m k)] w fun e w' => e = .returned (.tuple #[(⟨[], 0⟩ : Rs).val (.slice none 0 0), .int .i64 (ckE S r)]) ∧ Below w.heap.size w w' :=
  pSeal_bad g S r (ckE S r) A m k w h o.cv ht hE (fun W hW => pseal_bad g S r A m k W (h.below hW) hE)
end Go.Proofs.YtdalcldilmmgmaaDoor
