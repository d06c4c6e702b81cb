
/-
  Encrypt and Decrypt of the program.
-/
import Derived.Test.YtdalcldilmmgmaaDoorCid
namespace Go.Proofs.YtdalcldilmmgmaaDoor
set_option linter.unusedVariables false
set_option linter.unusedSimpArgs false
open Go.RowKit

/-- The error for a key and a block. -/
def fitE (k b : List UInt8) : Int := if k.length ≠ 16 then 19 else if b.length ≠ 8 then 1 else 0
set_option maxRecDepth 100000 in
theorem pfit_any (k b : List UInt8) (v u : Value) (w : World) (B : Nat) (hk : SL w B v k) (hb : SL w B u b) : Calls Tryd.prog 77 #[v, u] w fun e w' => e = .returned (.int .i64 (fitE k b)) ∧ w' = w := by
  obtain ⟨A1, c1, rfl, h11, h12, h13⟩ := hk
  obtain ⟨A2, c2, rfl, h21, h22, h23⟩ := hb
  clear h13 h23
  by_cases e1 : k.length = 16
  · have n1 : ((k.length : Int) != 16) = false := by simp [e1]
    by_cases e2 : b.length = 8
    · have n2 : ((b.length : Int) != 8) = false := by simp [e2]
      have HE : Hid (fitE k b = 0) := by show _ = _; rw [fitE, if_neg (by simp [e1]), if_neg (by simp [e2])]
      clear e1 e2
      go_enter Tryd.func77, Tryd.ntmps77
      go_wp2
      go_ret
      exact ⟨ret_int HE.out.symm, rfl⟩
    · have n2 : ((b.length : Int) != 8) = true := by simp; omega
      have HE : Hid (fitE k b = 1) := by show _ = _; rw [fitE, if_neg (by simp [e1]), if_pos e2]
      clear e1 e2
      go_enter Tryd.func77, Tryd.ntmps77
      go_wp2
      go_ret
      exact ⟨ret_int HE.out.symm, rfl⟩
  · have n1 : ((k.length : Int) != 16) = true := by simp; omega
    have HE : Hid (fitE k b = 19) := by show _ = _; rw [fitE, if_pos e1]
    clear e1
    go_enter Tryd.func77, Tryd.ntmps77
    go_wp2
    go_ret
    exact ⟨ret_int HE.out.symm, rfl⟩
set_option maxRecDepth 100000 in
set_option maxHeartbeats 1600000 in
theorem penc_ok (k b : List UInt8) (v u : Value) (w : World) (hk : SL w w.heap.size v k) (hb : SL w w.heap.size u b) (h1 : k.length = 16) (h2 : b.length = 8) :
    Calls Tryd.prog 70 #[v, u] w fun e w' => ∃ v', e = .returned (.tuple #[v', .int .i64 0]) ∧ OB w' w.heap.size v' (encB k b) ∧ Below w.heap.size w w' := by
  have HF := Lib.hid (pfit_any k b v u w w.heap.size hk hb)
  have hf : fitE k b = 0 := by rw [fitE, if_neg (by simp [h1]), if_neg (by simp [h2])]
  rw [hf] at HF
  have HX := Lib.hid (pexp_any k v w w.heap.size (Nat.le_refl _) hk h1)
  have HT : Hid (∀ W, Below w.heap.size w W → Calls Tryd.prog 78 #[u, kv (rk k)] W fun e w' => ∃ v', e = .returned v' ∧ OB w' W.heap.size v' (encB k b) ∧ Below W.heap.size W w') := fun W hW => ptra_any (rk k) b u W 0 ((hb.below hW).more hW.size) h2
  generalize kv (rk k) = V at *
  generalize encB k b = r at *
  obtain ⟨A1, c1, rfl, h11, h12, h13⟩ := hk
  obtain ⟨A2, c2, rfl, h21, h22, h23⟩ := hb
  clear h13 h23 h1 h2 hf
  go_enter Tryd.func70, Tryd.ntmps70
  go_wp2_with (first
    | (go_at_call 77; refine HF.out.mono ?_; rintro e w' ⟨rfl, rfl⟩)
    | (go_at_call 79; refine HX.out.mono ?_; rintro e w1 ⟨rfl, hb1⟩)
    | (go_at_call 78; refine (HT.out _ hb1).mono ?_; rintro e w2 ⟨v2, rfl, hv2, hb2⟩))
  go_ret2
  exact ⟨_, rfl, hv2.more hb1.size, hb1.trans (hb2.mono hb1.size)⟩
set_option maxRecDepth 100000 in
set_option maxHeartbeats 1600000 in
theorem penc_err (k b : List UInt8) (v u : Value) (w : World) (hk : SL w w.heap.size v k) (hb : SL w w.heap.size u b) (h : fitE k b ≠ 0) :
    Calls Tryd.prog 70 #[v, u] w fun e w' => e = .returned (.tuple #[.slice none 0 0, .int .i64 (fitE k b)]) ∧ w' = w := by
  have HF := Lib.hid (pfit_any k b v u w w.heap.size hk hb)
  have hn : (fitE k b != 0) = true := by simp [h]
  generalize fitE k b = E at *
  clear h
  obtain ⟨A1, c1, rfl, h11, h12, h13⟩ := hk
  obtain ⟨A2, c2, rfl, h21, h22, h23⟩ := hb
  clear h13 h23
  go_enter Tryd.func70, Tryd.ntmps70
  go_wp2_with (go_at_call 77; refine HF.out.mono ?_; rintro e w' ⟨rfl, rfl⟩)
  go_ret2
  exact ⟨rfl, rfl⟩
set_option maxRecDepth 100000 in
set_option maxHeartbeats 1600000 in
theorem pdec_err (k b : List UInt8) (v u : Value) (w : World) (hk : SL w w.heap.size v k) (hb : SL w w.heap.size u b) (h : fitE k b ≠ 0) :
    Calls Tryd.prog 76 #[v, u] w fun e w' => e = .returned (.tuple #[.slice none 0 0, .int .i64 (fitE k b)]) ∧ w' = w := by
  have HF := Lib.hid (pfit_any k b v u w w.heap.size hk hb)
  have hn : (fitE k b != 0) = true := by simp [h]
  generalize fitE k b = E at *
  clear h
  obtain ⟨A1, c1, rfl, h11, h12, h13⟩ := hk
  obtain ⟨A2, c2, rfl, h21, h22, h23⟩ := hb
  clear h13 h23
  go_enter Tryd.func76, Tryd.ntmps76
  go_wp2_with (go_at_call 77; refine HF.out.mono ?_; rintro e w' ⟨rfl, rfl⟩)
  go_ret2
  exact ⟨rfl, rfl⟩
set_option maxRecDepth 100000 in
set_option maxHeartbeats 3200000 in
theorem pdec_ok (k b : List UInt8) (v u : Value) (w : World) (hk : SL w w.heap.size v k) (hb : SL w w.heap.size u b) (h1 : k.length = 16) (h2 : b.length = 8) :
    Calls Tryd.prog 76 #[v, u] w fun e w' => ∃ v', e = .returned (.tuple #[v', .int .i64 0]) ∧ OB w' w.heap.size v' (decB k b) ∧ Below w.heap.size w w' := by
  have HF := Lib.hid (pfit_any k b v u w w.heap.size hk hb)
  have hf : fitE k b = 0 := by rw [fitE, if_neg (by simp [h1]), if_neg (by simp [h2])]
  rw [hf] at HF
  have HX := Lib.hid (pexp_any k v w w.heap.size (Nat.le_refl _) hk h1)
  rw [kv_lit] at HX
  obtain ⟨g2, hg2⟩ : ∃ g2, g2 = fun i => rk k (15 - i) := ⟨_, rfl⟩
  have HT : Hid (∀ W, Below w.heap.size w W → Calls Tryd.prog 78 #[u, kv g2] W fun e w' => ∃ v', e = .returned v' ∧ OB w' W.heap.size v' (decB k b) ∧ Below W.heap.size W w') := fun W hW => by
    rw [hg2]
    exact ptra_any (fun i => rk k (15 - i)) b u W 0 ((hb.below hW).more hW.size) h2
  have HR : Hid (∀ c W, AR W c (rk k) 16 → Calls Tryd.prog 80 #[.slice (some ⟨c, 0, none⟩) 16 16] W fun e w' => (∃ v, e = .returned v) ∧ AR w' c g2 16 ∧ Below c W w') := fun c W hW => by
    rw [hg2]
    exact prev_any (rk k) c W c (Nat.le_refl _) hW
  rw [kv_lit] at HT
  generalize decB k b = r at *
  generalize rk k = g at *
  clear hg2
  obtain ⟨A1, c1, rfl, h11, h12, h13⟩ := hk
  obtain ⟨A2, c2, rfl, h21, h22, h23⟩ := hb
  clear h13 h23 h1 h2 hf
  go_enter Tryd.func76, Tryd.ntmps76
  go_wp2_with (first
    | (go_at_call 77; refine HF.out.mono ?_; rintro e w' ⟨rfl, rfl⟩)
    | (go_at_call 79; refine HX.out.mono ?_; rintro e w1 ⟨rfl, hb1⟩)
    | (go_at_call 80; refine (HR.out _ _ (heap_alloc_new _ _)).mono ?_; rintro e w2 ⟨⟨v2, rfl⟩, hro, hb2⟩; have g0 := hro.cells 0 (by omega); have g1 := hro.cells 1 (by omega); have g2 := hro.cells 2 (by omega); have g3 := hro.cells 3 (by omega); have g4 := hro.cells 4 (by omega); have g5 := hro.cells 5 (by omega); have g6 := hro.cells 6 (by omega); have g7 := hro.cells 7 (by omega); have g8 := hro.cells 8 (by omega); have g9 := hro.cells 9 (by omega); have g10 := hro.cells 10 (by omega); have g11 := hro.cells 11 (by omega); have g12 := hro.cells 12 (by omega); have g13 := hro.cells 13 (by omega); have g14 := hro.cells 14 (by omega); have g15 := hro.cells 15 (by omega))
    | (go_at_call 78; refine (HT.out _ (hb1.trans ((Below.refl w1.heap.size w1).alloc (Nat.le_refl _) _ |>.trans hb2 |>.mono hb1.size))).mono ?_; rintro e w3 ⟨v3, rfl, hv3, hb3⟩))
  go_ret2
  have hb4 := (((Below.refl w1.heap.size w1).alloc (Nat.le_refl _) _).trans hb2)
  exact ⟨_, rfl, hv3.more (Nat.le_trans hb1.size hb4.size), hb1.trans ((hb4.trans (hb3.mono hb4.size)).mono hb1.size)⟩
end Go.Proofs.YtdalcldilmmgmaaDoor
