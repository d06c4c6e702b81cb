/-
  The walks of the chapter's examples and of the laws EccEncodes, EccDecodes, EccCorrects, EccPacks.
-/
import Derived.Test.YtcojoohbhkhlnaaDoorEck
namespace Go.Proofs.YtcojoohbhkhlnaaDoor
set_option linter.unusedVariables false
set_option linter.unusedSimpArgs false
open Go.RowKit

def exB : List UInt8 := [0, 0, 1]
theorem ex_enc : encW 1 = 15 := by decide +kernel
theorem ex_dec11 : decD 11 = 1 ∧ decH 11 = 1 := by decide +kernel
theorem ex_dec9 : decD 9 = 0 ∧ decH 9 = 2 := by decide +kernel
theorem ex_pack : packL exB = [15] := by decide +kernel
theorem exB_sl (w : World) : SL (w.alloc (.cells #[.int .u8 0, .int .u8 0, .int .u8 1] 5)) (w.alloc (.cells #[.int .u8 0, .int .u8 0, .int .u8 1] 5)).heap.size (.slice (some ⟨w.heap.size, 0, none⟩) 3 3) exB :=
  ⟨_, _, rfl, Nat.le_refl _, by simp only [maxLen]; decide, fun _ => ⟨w.heap.size, 0, rfl, by simp, fun k hk => by
    have hk3 : k < 3 := hk
    rw [cell_of_row _ w.heap.size _ _ 5 (0, 0) (heap_alloc_new w _), Nat.zero_add]
    have h3 : k = 0 ∨ k = 1 ∨ k = 2 := by omega
    rcases h3 with rfl | rfl | rfl <;> rfl⟩⟩

set_option maxRecDepth 100000 in
set_option maxHeartbeats 800000 in
theorem example_any (w : World) (hT : Tb w) : Calls Tryd.prog 11 #[] w fun e w' => e = .returned (.bool true) ∧ Below w.heap.size w w' := by
  have H1 : Hid (Calls Tryd.prog 9 #[.int .i64 1] w fun e w' => e = .returned (.tuple #[.int .u32 15, .int .i64 0]) ∧ ∃ n, w' = w.drewN n) := by
    have := penc_any 1 w (by omega) (by omega) hT
    unfold PencR at this
    rw [if_neg (by omega), if_neg (by omega), show (1 : Int).toNat = 1 from rfl, ex_enc] at this
    exact this
  have H2 : Hid (∀ n, Calls Tryd.prog 12 #[.int .u32 11] (w.drewN n) fun e w' => e = .returned (.tuple #[.int .i64 1, .int .i64 1]) ∧ ∃ m, w' = (w.drewN n).drewN m) := fun n => by
    have := pdec_any 11 (w.drewN n) (by omega) (hT.drewN n)
    unfold PdecR at this
    rw [ex_dec11.1, ex_dec11.2] at this
    exact this
  have H3 : Hid (∀ n, Calls Tryd.prog 12 #[.int .u32 9] (w.drewN n) fun e w' => e = .returned (.tuple #[.int .i64 0, .int .i64 2]) ∧ ∃ m, w' = (w.drewN n).drewN m) := fun n => by
    have := pdec_any 9 (w.drewN n) (by omega) (hT.drewN n)
    unfold PdecR at this
    rw [ex_dec9.1, ex_dec9.2] at this
    exact this
  have HT := Lib.hid hT
  clear hT
  go_enter Tryd.func11, Tryd.ntmps11
  go_wp2_with fail
  refine H1.out.mono ?_
  rintro e w1 ⟨rfl, n1, rfl⟩
  go_wp2_with fail
  refine (H2.out n1).mono ?_
  rintro e w2 ⟨rfl, n2, rfl⟩
  rw [World.drewN_drewN]
  go_wp2_with fail
  refine (H3.out _).mono ?_
  rintro e w3 ⟨rfl, n3, rfl⟩
  rw [World.drewN_drewN]
  generalize n1 + n2 + n3 = n
  have hb0 : Below w.heap.size w (w.drewN n) := drewN_below _ _ _
  have hT1 := HT.out.on hb0
  obtain ⟨W, hW⟩ : ∃ W, w.drewN n = W := ⟨_, rfl⟩
  rw [hW] at hb0 hT1
  rw [hW]
  clear hW
  have hP := ppack_any exB _ _ (exB_sl W) (by decide) (hT1.on (alloc_below _ _))
  unfold PackR at hP
  rw [ex_pack] at hP
  have hP := Lib.hid hP
  go_wp2_with fail
  refine hP.out.mono ?_
  rintro e w4 ⟨v4, rfl, hv4, hb4⟩
  obtain ⟨g, cap, rfl, _, _⟩ := World.ownsRow.form hv4 (by simp)
  have hc := hv4.cellAt 0 (by decide)
  have hc : w4.cell? ⟨g, 0, none⟩ = some (.int .u32 15) := hc
  have hb5 : Below w.heap.size w w4 := hb0.trans (((alloc_below W _).mono hb0.size).trans (hb4.mono (by rw [alloc_size]; have := hb0.size; omega)))
  clear hP hv4
  go_wp2_with (go_at_call 14; refine (pwords_any 4 _ (by omega) (by omega)).mono ?_; rintro e w' ⟨rfl, rfl⟩)
  go_ret
  exact ⟨rfl, hb5⟩

set_option maxRecDepth 100000 in
set_option maxHeartbeats 800000 in
theorem law_enc (d : Int) (w : World) (hd : -9223372036854775808 ≤ d ∧ d ≤ 9223372036854775807) (hT : Tb w) :
    Calls Tryd.prog 3 #[.int .i64 d] w fun e w' => e = .returned (.bool true) ∧ Below w.heap.size w w' := by
  have H1 := penc_any d w hd.1 hd.2 hT
  have H2 := fun n => renc_any d (w.drewN n) hd.1 hd.2
  unfold PencR at H1
  unfold EncR at H2
  generalize (if d < 0 ∨ 16777216 ≤ d then 0 else encW d.toNat) = x at *
  generalize (if d < 0 ∨ 16777216 ≤ d then (2 : Int) else 0) = y at *
  have H1 := Lib.hid H1
  have H2 := Lib.hid H2
  have HE := Lib.hid (fun n => example_any (w.drewN n) (hT.drewN n))
  clear hT hd
  go_enter Tryd.func3, Tryd.ntmps3
  go_wp2_with fail
  refine H1.out.mono ?_
  rintro e w1 ⟨rfl, n1, rfl⟩
  go_wp2_with fail
  refine (H2.out n1).mono ?_
  rintro e w2 ⟨rfl, rfl⟩
  go_wp2_with fail
  refine (HE.out n1).mono ?_
  rintro e w3 ⟨rfl, hb⟩
  go_wp2_with fail
  go_ret
  exact ⟨rfl, (drewN_below _ _ _).trans hb⟩

set_option maxRecDepth 100000 in
set_option maxHeartbeats 800000 in
theorem law_dec (x : Nat) (w : World) (hx : x < 4294967296) (hT : Tb w) :
    Calls Tryd.prog 4 #[.int .u32 (x : Int)] w fun e w' => e = .returned (.bool true) ∧ Below w.heap.size w w' := by
  have H1 := pdec_any x w hx hT
  have H2 := fun n => rdec_any x (w.drewN n) hx
  unfold PdecR at H1
  unfold DecR at H2
  generalize decD x = a at *
  generalize decH x = b at *
  have H1 := Lib.hid H1
  have H2 := Lib.hid H2
  have HE := Lib.hid (fun n => example_any (w.drewN n) (hT.drewN n))
  clear hT
  go_enter Tryd.func4, Tryd.ntmps4
  go_wp2_with fail
  refine H1.out.mono ?_
  rintro e w1 ⟨rfl, n1, rfl⟩
  go_wp2_with fail
  refine (H2.out n1).mono ?_
  rintro e w2 ⟨rfl, rfl⟩
  go_wp2_with fail
  refine (HE.out n1).mono ?_
  rintro e w3 ⟨rfl, hb⟩
  go_wp2_with fail
  go_ret
  exact ⟨rfl, (drewN_below _ _ _).trans hb⟩

set_option maxRecDepth 100000 in
set_option maxHeartbeats 800000 in
theorem law_pack (l : List UInt8) (v : Value) (n : Int) (w : World) (hl : SL w w.heap.size v l) (hn : -9223372036854775808 ≤ n ∧ n ≤ 9223372036854775807) (hT : Tb w) :
    Calls Tryd.prog 6 #[v, .int .i64 n] w fun e w' => e = .returned (.bool true) ∧ Below w.heap.size w w' := by
  by_cases h4 : 3000 < l.length
  · have HE := Lib.hid (example_any w hT)
    obtain ⟨A, c, rfl, _, _, _⟩ := hl
    clear hT
    go_enter Tryd.func6, Tryd.ntmps6
    go_wp2_with fail
    refine HE.out.mono ?_
    rintro e w3 ⟨rfl, hb⟩
    go_wp2_with fail
    go_ret
    exact ⟨rfl, hb⟩
  · have HL := Lib.hid hl
    have HT := Lib.hid hT
    have H1 := Lib.hid (pwords_any n w hn.2 hn.1)
    have H2 := Lib.hid (rwords_any n w hn.2 hn.1)
    have H3 := Lib.hid (ppack_any l v w hl (by omega) hT)
    obtain ⟨A, c, rfl, _, _, _⟩ := hl
    clear hT hn
    go_enter Tryd.func6, Tryd.ntmps6
    go_wp2_with fail
    refine H1.out.mono ?_
    rintro e w1 ⟨rfl, rfl⟩
    go_wp2_with fail
    refine H2.out.mono ?_
    rintro e w1 ⟨rfl, rfl⟩
    generalize wrdN n = k
    go_wp2_with fail
    refine H3.out.mono ?_
    rintro e w1 ⟨v1, rfl, hv1, hb1⟩
    go_wp2_with fail
    refine (rpack_any l _ w1 (HL.out.on hb1) (by omega)).mono ?_
    rintro e w2 ⟨v2, rfl, hv2, hb2⟩
    have hs1 := (hv1.sl.on hb2)
    have hs2 := hv2.sl
    have hw2 : Below w.heap.size w w2 := hb1.trans (hb2.mono hb1.size)
    go_wp2_with fail
    refine (samew_yes (packL l) _ _ w2 _ hs1 hs2).mono ?_
    rintro e w3 ⟨rfl, m, rfl⟩
    have hw3 := below_drewN hw2 m
    go_wp2_with fail
    refine (example_any _ (HT.out.on hw3)).mono ?_
    rintro e w4 ⟨rfl, hb4⟩
    go_wp2_with fail
    go_ret
    exact ⟨rfl, hw3.trans (hb4.mono hw3.size)⟩
end Go.Proofs.YtcojoohbhkhlnaaDoor
