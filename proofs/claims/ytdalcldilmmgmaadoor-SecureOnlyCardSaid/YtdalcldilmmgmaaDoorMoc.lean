
/-
  Layer 20: EncryptCBC and DecryptCBC of the program.
-/
import Derived.Test.YtdalcldilmmgmaaDoorMob
namespace Go.Proofs.YtdalcldilmmgmaaDoor
set_option linter.unusedVariables false
set_option linter.unusedSimpArgs false
open Go.RowKit

theorem fitC_one {k iv d : List UInt8} (h : fitC k iv d ≠ 0) : fitC k iv d = 1 := by
  unfold fitC at *
  split
  · rfl
  · rename_i hn
    rw [if_neg hn] at h
    exact absurd rfl h
set_option maxRecDepth 100000 in
set_option maxHeartbeats 3200000 in
theorem pchain_err (k iv d : List UInt8) (vk vi vd : Value) (f b : Nat) (w W : World) (hk : SL w w.heap.size vk k) (hi : SL w w.heap.size vi iv) (hd : SL w w.heap.size vd d) (h : fitC k iv d ≠ 0) :
    Calls Tryd.prog 67 #[vk, vi, vd, .func (.func f) #[] #[.pointer (some ⟨b, 0, none⟩)]] W fun e w' => e = .returned (.tuple #[.slice none 0 0, .int .i64 1]) ∧ w' = W := by
  obtain ⟨A1, c1, rfl, h11, h12, h13⟩ := hk
  obtain ⟨A2, c2, rfl, h21, h22, h23⟩ := hi
  obtain ⟨A3, c3, rfl, h31, h32, h33⟩ := hd
  clear h13 h23 h33
  have hc : k.length ≠ 16 ∨ iv.length ≠ 8 ∨ d.length % 8 ≠ 0 := by
    unfold fitC at h
    split at h
    · assumption
    · exact absurd rfl h
  clear h
  by_cases e1 : k.length = 16
  · have n1 : ((k.length : Int) != 16) = false := by simp [e1]
    by_cases e2 : iv.length = 8
    · have n2 : ((iv.length : Int) != 8) = false := by simp [e2]
      have n3 : ((d.length : Int) % 8 != 0) = true := by
        have : d.length % 8 ≠ 0 := by rcases hc with h | h | h <;> first | exact absurd e1 h | exact absurd e2 h | exact h
        simp; omega
      clear hc e1 e2
      go_enter Tryd.func67, Tryd.ntmps67
      go_wp2
      go_ret2
      exact ⟨rfl, rfl⟩
    · have n2 : ((iv.length : Int) != 8) = true := by simp; omega
      clear hc e1 e2
      go_enter Tryd.func67, Tryd.ntmps67
      go_wp2
      go_ret2
      exact ⟨rfl, rfl⟩
  · have n1 : ((k.length : Int) != 16) = true := by simp; omega
    clear hc e1
    go_enter Tryd.func67, Tryd.ntmps67
    go_wp2
    go_ret2
    exact ⟨rfl, rfl⟩
set_option maxRecDepth 100000 in
set_option maxHeartbeats 3200000 in
theorem pcbe_ok (k iv d : List UInt8) (vk vi vd : Value) (w : World) (hk : SL w w.heap.size vk k) (hi : SL w w.heap.size vi iv) (hd : SL w w.heap.size vd d) (h1 : k.length = 16) (h2 : iv.length = 8) (h3 : d.length = 8 * (d.length / 8)) (hs : d.length ≤ 100000) :
    Calls Tryd.prog 55 #[vk, vi, vd] w fun e w' => ∃ v', e = .returned (.tuple #[v', .int .i64 0]) ∧ OB w' w.heap.size v' (cbE k iv d) ∧ Below w.heap.size w w' := by
  have HC : Hid (∀ o, o = Obj.cells #[vk] 22 → Calls Tryd.prog 67 #[vk, vi, vd, .func (.func 68) #[] #[.pointer (some ⟨w.heap.size, 0, none⟩)]] (w.alloc o) fun e w' => ∃ v', e = .returned (.tuple #[v', .int .i64 0]) ∧ OB w' w.heap.size v' (cbE k iv d) ∧ Below w.heap.size w w') := fun o ho => by
    subst ho
    have hb := (Below.refl w.heap.size w).alloc (Nat.le_refl _) (Obj.cells #[vk] 22)
    refine (pchain44_ok (fun x l => (encB k (xorL x l), encB k (xorL x l))) k iv d vk vi vd w.heap.size (w.alloc (Obj.cells #[vk] 22)) (hk.on hb) (hi.on hb) (hd.on hb) h1 h2 h3 hs (fun x l h g => ⟨encB_length _ _, encB_length _ _⟩) ?_).mono fun e w' ⟨v', e1, e2, e3⟩ => ⟨v', e1, ?_, after hb e3⟩
    · intro g W v u x l hB hg hx hl hx8 hl8
      have hrow : W.heap[w.heap.size]? = some (.cells #[vk] 22 (0, 0)) := (hB.block w.heap.size (by rw [alloc_size]; omega)).trans (heap_alloc_new w _)
      exact penc_op g k x l vk v u w.heap.size W hrow ((hk.on hb).on hB) hx hl h1 hx8 hl8 hg
    · have e : cbE k iv d = (chS (fun x l => (encB k (xorL x l), encB k (xorL x l))) iv d (d.length / 8)).1 := by rw [cbE, encS_ch]
      rw [e]
      exact e2.more (by rw [alloc_size]; omega)
  generalize cbE k iv d = r at *
  obtain ⟨A1, c1, rfl, h11, h12, h13⟩ := hk
  obtain ⟨A2, c2, rfl, h21, h22, h23⟩ := hi
  obtain ⟨A3, c3, rfl, h31, h32, h33⟩ := hd
  clear h13 h23 h33 h1 h2 h3
  go_enter Tryd.func55, Tryd.ntmps55
  go_wp2_with (go_at_call 67; refine (HC.out _ rfl).mono ?_; rintro e w1 ⟨v1, rfl, hv1, hb1⟩)
  go_ret2
  exact ⟨_, rfl, hv1, hb1⟩
set_option maxRecDepth 100000 in
set_option maxHeartbeats 3200000 in
theorem pcbe_err (k iv d : List UInt8) (vk vi vd : Value) (w : World) (hk : SL w w.heap.size vk k) (hi : SL w w.heap.size vi iv) (hd : SL w w.heap.size vd d) (h : fitC k iv d ≠ 0) :
    Calls Tryd.prog 55 #[vk, vi, vd] w fun e w' => e = .returned (.tuple #[.slice none 0 0, .int .i64 1]) ∧ Below w.heap.size w w' := by
  have HC := Lib.hid (fun W f b => pchain_err k iv d vk vi vd f b w W hk hi hd h)
  obtain ⟨A1, c1, rfl, h11, h12, h13⟩ := hk
  obtain ⟨A2, c2, rfl, h21, h22, h23⟩ := hi
  obtain ⟨A3, c3, rfl, h31, h32, h33⟩ := hd
  clear h13 h23 h33 h
  go_enter Tryd.func55, Tryd.ntmps55
  go_wp2_with (go_at_call 67; refine (HC.out _ _ _).mono ?_; rintro e w1 ⟨rfl, rfl⟩)
  go_ret2
  exact ⟨rfl, (Below.refl _ _).alloc (Nat.le_refl _) _⟩
theorem pcbe_any (k iv d : List UInt8) (vk vi vd : Value) (w : World) (hk : SL w w.heap.size vk k) (hi : SL w w.heap.size vi iv) (hd : SL w w.heap.size vd d) (hs : d.length ≤ 100000) :
    Calls Tryd.prog 55 #[vk, vi, vd] w (CiP (if fitC k iv d = 0 then cbE k iv d else []) (fitC k iv d) w) := by
  by_cases h : fitC k iv d = 0
  · obtain ⟨h1, h2, h3⟩ := fitC_zero h
    rw [if_pos h, h]
    exact pcbe_ok k iv d vk vi vd w hk hi hd h1 h2 h3 hs
  · rw [if_neg h, fitC_one h]
    exact (pcbe_err k iv d vk vi vd w hk hi hd h).mono fun e w' ⟨he, hw⟩ => ⟨_, he, OB.nil _ _, hw⟩
set_option maxRecDepth 100000 in
set_option maxHeartbeats 3200000 in
theorem pcbd_ok (k iv d : List UInt8) (vk vi vd : Value) (w : World) (hk : SL w w.heap.size vk k) (hi : SL w w.heap.size vi iv) (hd : SL w w.heap.size vd d) (h1 : k.length = 16) (h2 : iv.length = 8) (h3 : d.length = 8 * (d.length / 8)) (hs : d.length ≤ 100000) :
    Calls Tryd.prog 64 #[vk, vi, vd] w fun e w' => ∃ v', e = .returned (.tuple #[v', .int .i64 0]) ∧ OB w' w.heap.size v' (cbD k iv d) ∧ Below w.heap.size w w' := by
  have HC : Hid (∀ o, o = Obj.cells #[vk] 22 → Calls Tryd.prog 67 #[vk, vi, vd, .func (.func 75) #[] #[.pointer (some ⟨w.heap.size, 0, none⟩)]] (w.alloc o) fun e w' => ∃ v', e = .returned (.tuple #[v', .int .i64 0]) ∧ OB w' w.heap.size v' (cbD k iv d) ∧ Below w.heap.size w w') := fun o ho => by
    subst ho
    have hb := (Below.refl w.heap.size w).alloc (Nat.le_refl _) (Obj.cells #[vk] 22)
    refine (pchain47_ok (fun x l => (xorL (decB k x) l, x)) k iv d vk vi vd w.heap.size (w.alloc (Obj.cells #[vk] 22)) (hk.on hb) (hi.on hb) (hd.on hb) h1 h2 h3 hs (fun x l h g => ⟨xor_len8 (decB_length _ _) g, h⟩) ?_).mono fun e w' ⟨v', e1, e2, e3⟩ => ⟨v', e1, ?_, after hb e3⟩
    · intro g W v u x l hB hg hx hl hx8 hl8
      have hrow : W.heap[w.heap.size]? = some (.cells #[vk] 22 (0, 0)) := (hB.block w.heap.size (by rw [alloc_size]; omega)).trans (heap_alloc_new w _)
      exact pdec_op g k x l vk v u w.heap.size W hrow ((hk.on hb).on hB) hx hl h1 hx8 hl8 hg
    · have e : cbD k iv d = (chS (fun x l => (xorL (decB k x) l, x)) iv d (d.length / 8)).1 := by rw [cbD, decS_ch]
      rw [e]
      exact e2.more (by rw [alloc_size]; omega)
  generalize cbD k iv d = r at *
  obtain ⟨A1, c1, rfl, h11, h12, h13⟩ := hk
  obtain ⟨A2, c2, rfl, h21, h22, h23⟩ := hi
  obtain ⟨A3, c3, rfl, h31, h32, h33⟩ := hd
  clear h13 h23 h33 h1 h2 h3
  go_enter Tryd.func64, Tryd.ntmps64
  go_wp2_with (go_at_call 67; refine (HC.out _ rfl).mono ?_; rintro e w1 ⟨v1, rfl, hv1, hb1⟩)
  go_ret2
  exact ⟨_, rfl, hv1, hb1⟩
set_option maxRecDepth 100000 in
set_option maxHeartbeats 3200000 in
theorem pcbd_err (k iv d : List UInt8) (vk vi vd : Value) (w : World) (hk : SL w w.heap.size vk k) (hi : SL w w.heap.size vi iv) (hd : SL w w.heap.size vd d) (h : fitC k iv d ≠ 0) :
    Calls Tryd.prog 64 #[vk, vi, vd] w fun e w' => e = .returned (.tuple #[.slice none 0 0, .int .i64 1]) ∧ Below w.heap.size w w' := by
  have HC := Lib.hid (fun W f b => pchain_err k iv d vk vi vd f b w W hk hi hd h)
  obtain ⟨A1, c1, rfl, h11, h12, h13⟩ := hk
  obtain ⟨A2, c2, rfl, h21, h22, h23⟩ := hi
  obtain ⟨A3, c3, rfl, h31, h32, h33⟩ := hd
  clear h13 h23 h33 h
  go_enter Tryd.func64, Tryd.ntmps64
  go_wp2_with (go_at_call 67; refine (HC.out _ _ _).mono ?_; rintro e w1 ⟨rfl, rfl⟩)
  go_ret2
  exact ⟨rfl, (Below.refl _ _).alloc (Nat.le_refl _) _⟩
theorem pcbd_any (k iv d : List UInt8) (vk vi vd : Value) (w : World) (hk : SL w w.heap.size vk k) (hi : SL w w.heap.size vi iv) (hd : SL w w.heap.size vd d) (hs : d.length ≤ 100000) :
    Calls Tryd.prog 64 #[vk, vi, vd] w (CiP (if fitC k iv d = 0 then cbD k iv d else []) (fitC k iv d) w) := by
  by_cases h : fitC k iv d = 0
  · obtain ⟨h1, h2, h3⟩ := fitC_zero h
    rw [if_pos h, h]
    exact pcbd_ok k iv d vk vi vd w hk hi hd h1 h2 h3 hs
  · rw [if_neg h, fitC_one h]
    exact (pcbd_err k iv d vk vi vd w hk hi hd h).mono fun e w' ⟨he, hw⟩ => ⟨_, he, OB.nil _ _, hw⟩
end Go.Proofs.YtdalcldilmmgmaaDoor
