/-
  The walk of works.
-/
import Derived.Test.YtahnmnbjgbfeaaaTxb
namespace Go.Proofs.Ytahnmnbjgbfeaaa
set_option linter.unusedVariables false
set_option linter.unusedSimpArgs false
open Go.RowKit

/-- One object in a block of its own. -/
theorem TL.one (w : World) (n : Nat) (hn : w.heap.size = n) (t : T) (sv kv : Value) (h1 : SL w n sv t.val) (h2 : TL w n kv t.kids) :
    TL (w.alloc (.cells #[.int .i64 t.tag, sv, kv] 58)) (n + 1) (.slice (some ⟨n, 0, none⟩) 1 1) [t] := by
  subst hn
  have hb := alloc_below w (.cells #[.int .i64 t.tag, sv, kv] 58)
  have hz : (w.alloc (.cells #[.int .i64 t.tag, sv, kv] 58)).heap.size = w.heap.size + 1 := alloc_size _ _
  have hr := heap_alloc_new w (.cells #[.int .i64 t.tag, sv, kv] 58)
  refine ⟨_, 1, rfl, Nat.le_refl _, by unfold maxLen; omega, fun _ => ⟨w.heap.size, 0, rfl, by omega, ?_⟩⟩
  unfold TsAt
  refine ⟨TAt.make ((cell_of_row _ _ 0 _ _ _ hr).trans rfl) ⟨sv, (cell_of_row _ _ 1 _ _ _ hr).trans rfl, ?_⟩ ⟨kv, (cell_of_row _ _ 2 _ _ _ hr).trans rfl, ?_⟩, by unfold TsAt; trivial⟩
  · rw [← hz]; exact h1.on hb
  · rw [← hz]; exact h2.on hb
theorem TL.nil (w : World) (B c : Nat) (A : Option Addr) (hc : c ≤ maxLen) : TL w B (.slice A 0 c) [] := ⟨A, c, rfl, Nat.zero_le _, hc, fun hp => absurd hp (by simp)⟩

def t84 : T := .mk 132 [160, 1] []
def t6f : T := .mk 111 [] [t84]

def wX (w : World) : Obj := .cells #[.int .i64 132, .slice (some ⟨w.heap.size, 0, none⟩) 2 2, .slice none 0 0] 58
def wL (w : World) : Obj := .cells #[.int .i64 111, .slice none 0 0, .slice (some ⟨w.heap.size + 1 + 1, 0, none⟩) 1 1] 58
def w5 (w : World) : World := ((((w.alloc (.cells #[.int .u8 160, .int .u8 1] 5)).alloc (wX w)).alloc (wX w)).alloc (wL w)).alloc (wX w)
theorem w5_below (w : World) : Below w.heap.size w (w5 w) := by
  unfold w5
  exact (((alloc2_below w _ _).alloc (by simp; omega) _).alloc (by simp; omega) _).alloc (by simp; omega) _
theorem w5_ex (w : World) : TL (w5 w) (w5 w).heap.size (.slice (some ⟨w.heap.size + 1 + 1 + 1 + 1, 0, none⟩) 1 1) [t84] ∧ TL (w5 w) (w5 w).heap.size (.slice (some ⟨w.heap.size + 1 + 1 + 1, 0, none⟩) 1 1) [t6f] := by
  have s1 := SL.new w #[.int .u8 160, .int .u8 1] [160, 1] rfl (by simp)
  have b2 := alloc_below (w.alloc (.cells #[.int .u8 160, .int .u8 1] 5)) (wX w)
  have s2 := s1.on b2
  have h2 : ((w.alloc (.cells #[.int .u8 160, .int .u8 1] 5)).alloc (wX w)).heap.size = w.heap.size + 1 + 1 := by simp
  rw [h2] at s2
  have k3 := TL.one ((w.alloc (.cells #[.int .u8 160, .int .u8 1] 5)).alloc (wX w)) (w.heap.size + 1 + 1) h2 t84 _ (.slice none 0 0) s2 (TL.nil _ _ _ _ (Nat.zero_le _))
  have h3 : (((w.alloc (.cells #[.int .u8 160, .int .u8 1] 5)).alloc (wX w)).alloc (wX w)).heap.size = w.heap.size + 1 + 1 + 1 := by simp
  have k4 := TL.one (((w.alloc (.cells #[.int .u8 160, .int .u8 1] 5)).alloc (wX w)).alloc (wX w)) (w.heap.size + 1 + 1 + 1) h3 t6f (.slice none 0 0) _ (SL.nil _ _ _ _ (Nat.zero_le _)) k3
  have h4 : ((((w.alloc (.cells #[.int .u8 160, .int .u8 1] 5)).alloc (wX w)).alloc (wX w)).alloc (wL w)).heap.size = w.heap.size + 1 + 1 + 1 + 1 := by simp
  have h5 : (w5 w).heap.size = w.heap.size + 1 + 1 + 1 + 1 + 1 := by unfold w5; simp
  have b3 := alloc_below ((w.alloc (.cells #[.int .u8 160, .int .u8 1] 5)).alloc (wX w)) (wX w)
  have b4 := alloc_below (((w.alloc (.cells #[.int .u8 160, .int .u8 1] 5)).alloc (wX w)).alloc (wX w)) (wL w)
  have b5 := alloc_below ((((w.alloc (.cells #[.int .u8 160, .int .u8 1] 5)).alloc (wX w)).alloc (wX w)).alloc (wL w)) (wX w)
  have s3 := s2.below (h2 ▸ b3)
  have s4 := (s3.more (B' := w.heap.size + 1 + 1 + 1) (by omega)).below (h3 ▸ b4)
  have k5 := TL.one ((((w.alloc (.cells #[.int .u8 160, .int .u8 1] 5)).alloc (wX w)).alloc (wX w)).alloc (wL w)) (w.heap.size + 1 + 1 + 1 + 1) h4 t84 _ (.slice none 0 0) (s4.more (by omega)) (TL.nil _ _ _ _ (Nat.zero_le _))
  rw [h5]
  exact ⟨k5, k4.keep (by omega) fun p hp => (h4 ▸ b5).cell (p := p) hp⟩

theorem encE84 : encE [t84] = 0 := by kernel_rfl
theorem encM84 : encM [t84] = [132, 2, 160, 1] := by kernel_rfl
theorem encE6f : encE [t6f] = 0 := by kernel_rfl
theorem encM6f : encM [t6f] = [111, 4, 132, 2, 160, 1] := by kernel_rfl
theorem encL84 : (encL [t84]).length = 4 := by kernel_rfl
theorem encL6f : (encL [t6f]).length = 6 := by kernel_rfl
theorem txt6f : txtM [t6f] = [54, 102, 10, 32, 32, 56, 52, 32, 97, 48, 48, 49, 10] := by kernel_rfl

theorem dec1 (w : World) : Calls Try.prog 53 #[.slice (some ⟨w.heap.size, 0, none⟩) 5 5] (w.alloc (.cells #[.int .u8 132, .int .u8 129, .int .u8 2, .int .u8 160, .int .u8 1] 5)) fun e w' => e = .returned (.tuple #[.slice none 0 0, .int .i64 4]) ∧ Below w.heap.size w w' := by
  have hr := heap_alloc_new w (.cells #[.int .u8 132, .int .u8 129, .int .u8 2, .int .u8 160, .int .u8 1] 5)
  refine (dec_err _ 5 5 4 _ (by omega) (by omega) rfl (ro_long w.heap.size _ (cell_of_row _ _ 0 _ _ _ hr) (cell_of_row _ _ 1 _ _ _ hr) (cell_of_row _ _ 2 _ _ _ hr))).mono ?_
  rintro e w' ⟨rfl, hb⟩
  exact ⟨rfl, after_alloc hb⟩
theorem dec2 (w : World) : Calls Try.prog 53 #[.slice (some ⟨w.heap.size, 0, none⟩) 4 4] (w.alloc (.cells #[.int .u8 132, .int .u8 3, .int .u8 160, .int .u8 1] 5)) fun e w' => e = .returned (.tuple #[.slice none 0 0, .int .i64 5]) ∧ Below w.heap.size w w' := by
  have hr := heap_alloc_new w (.cells #[.int .u8 132, .int .u8 3, .int .u8 160, .int .u8 1] 5)
  refine (dec_err _ 4 4 5 _ (by omega) (by omega) rfl (ro_short w.heap.size _ (cell_of_row _ _ 0 _ _ _ hr) (cell_of_row _ _ 1 _ _ _ hr))).mono ?_
  rintro e w' ⟨rfl, hb⟩
  exact ⟨rfl, after_alloc hb⟩
theorem dec3 (w : World) : Calls Try.prog 53 #[.slice (some ⟨w.heap.size, 0, none⟩) 1 1] (w.alloc (.cells #[.int .u8 0] 5)) fun e w' => e = .returned (.tuple #[.slice none 0 0, .int .i64 4]) ∧ Below w.heap.size w w' := by
  have hr := heap_alloc_new w (.cells #[.int .u8 0] 5)
  refine (dec_err _ 1 1 4 _ (by omega) (by omega) rfl (ro_zero w.heap.size 1 _ (cell_of_row _ _ 0 _ _ _ hr) (by omega) (by omega))).mono ?_
  rintro e w' ⟨rfl, hb⟩
  exact ⟨rfl, after_alloc hb⟩

set_option maxRecDepth 100000 in
set_option maxHeartbeats 3200000 in
theorem works_any (w : World) : Calls Try.prog 48 #[] w fun e w' => e = .returned (.bool true) ∧ Below w.heap.size w w' := by
  obtain ⟨hA, hL⟩ := w5_ex w
  have hBel := w5_below w
  have h1 := pencode_any [t84] _ (w5 w) hA (by rw [encL84]; omega)
  rw [encE84, encM84] at h1
  have h2 := fun W hL => pencode_any [t6f] (.slice (some ⟨w.heap.size + 1 + 1 + 1, 0, none⟩) 1 1) W hL (by rw [encL6f]; omega)
  rw [encE6f, encM6f] at h2
  have h3 := fun W hL => ptext_any [t6f] (.slice (some ⟨w.heap.size + 1 + 1 + 1, 0, none⟩) 1 1) W hL (by rw [encL6f]; omega) (by rw [txt6f]; simp)
  rw [txt6f] at h3
  have H1 := Lib.hid h1
  have H2 := Lib.hid h2
  have H3 := Lib.hid h3
  clear h1 h2 h3
  go_enter Try.func48, Try.ntmps48
  go_wp2_with fail
  refine (H1.out).mono ?_
  rintro e w6 ⟨v6, rfl, hv6, hb6⟩
  go_wp2_with fail
  refine (H2.out w6 (hL.on hb6)).mono ?_
  rintro e w7 ⟨v7, rfl, hv7, hb7⟩
  go_wp2_with fail
  refine (dec1 w7).mono ?_
  rintro e w8 ⟨rfl, hb8⟩
  go_wp2_with fail
  refine (dec2 w8).mono ?_
  rintro e w9 ⟨rfl, hb9⟩
  go_wp2_with fail
  refine (dec3 w9).mono ?_
  rintro e wa ⟨rfl, hba⟩
  have cv1 := ((((hv6.on hb7).on hb8).on hb9).on hba).convert
  have cv2 := (((hv7.on hb8).on hb9).on hba).convert
  have hLa := ((((hL.on hb6).on hb7).on hb8).on hb9).on hba
  have s6 := hb6.size
  have hBa : Below (w5 w).heap.size (w5 w) wa := (((hb6.trans (hb7.mono s6)).trans (hb8.mono (hb6.trans (hb7.mono s6)).size)).trans (hb9.mono ((hb6.trans (hb7.mono s6)).trans (hb8.mono (hb6.trans (hb7.mono s6)).size)).size)).trans
    (hba.mono (((hb6.trans (hb7.mono s6)).trans (hb8.mono (hb6.trans (hb7.mono s6)).size)).trans (hb9.mono ((hb6.trans (hb7.mono s6)).trans (hb8.mono (hb6.trans (hb7.mono s6)).size)).size)).size)
  clear hb6 hb7 hb8 hb9 hba hv6 hv7
  go_wp2_with (go_at_call 60; refine (H3.out _ hLa).mono ?_; rintro e wb ⟨rfl, hbb⟩)
  go_ret
  exact ⟨rfl, hBel.trans ((hBa.trans (hbb.mono hBa.size)).mono hBel.size)⟩
end Go.Proofs.Ytahnmnbjgbfeaaa
