
/-
  The cipher of the program: the rounds.
-/
import Derived.Test.YtdalcldilmmgmaaDoorCic
import Derived.StillTailTactics
namespace Go.Proofs.YtdalcldilmmgmaaDoor
set_option linter.unusedVariables false
set_option linter.unusedSimpArgs false
open Go.RowKit

theorem AR.alloc {w : World} {b : Nat} {g : Nat → UInt32} {k : Nat} (h : AR w b g k) (o : Obj) (hb : b < w.heap.size) : AR (w.alloc o) b g k := by
  unfold AR
  rw [Below.heap_alloc _ _ _ hb]
  exact h
theorem row2_set {w : World} {b : Nat} {t : TypeId} {u v : Value} (h : w.heap[b]? = some (.cells #[u, v] t (0, 0))) (x y x' y' : Int) (hx : x = x') (hy : y = y') :
    ((w.setCell ⟨b, 0, none⟩ (.int .u32 x)).setCell ⟨b, 1, none⟩ (.int .u32 y)).heap[b]? = some (.cells #[.int .u32 x', .int .u32 y'] t (0, 0)) := by
  subst hx hy
  have h1 := heap_setCell_same w b 0 _ t (.int .u32 x) h
  have h2 := heap_setCell_same _ b 1 _ t (.int .u32 y) h1
  rw [h2]
  rfl
theorem mk_eight0 (W : World) : (Instr.makeSlice 22 (.int .i64 0) (.int .i64 8)).run Tryd.prog W = .ok (.slice (some ⟨W.heap.size, 0, none⟩) 0 8) (W.alloc (.cells #[.int .u8 0, .int .u8 0, .int .u8 0, .int .u8 0, .int .u8 0, .int .u8 0, .int .u8 0, .int .u8 0] 5)) := by kernel_rfl
theorem ob_eight0 (W : World) (B : Nat) (hB : B ≤ W.heap.size) : OB (W.alloc (.cells #[.int .u8 0, .int .u8 0, .int .u8 0, .int .u8 0, .int .u8 0, .int .u8 0, .int .u8 0, .int .u8 0] 5)) B (.slice (some ⟨W.heap.size, 0, none⟩) 0 8) [] :=
  ⟨rfl, .inr ⟨W.heap.size, 8, _, rfl, hB, heap_alloc_new W _, by simp, by unfold maxLen; omega, rfl, rfl⟩⟩
theorem OB.drew {w : World} {base : Nat} {v : Value} {l : List UInt8} (h : OB w base v l) : OB w.drew base v l := h
theorem OB.more {w : World} {base base' : Nat} {v : Value} {l : List UInt8} (h : OB w base v l) (hb : base' ≤ base) : OB w base' v l := by
  obtain ⟨h1, h2⟩ := h
  refine ⟨h1, ?_⟩
  rcases h2 with h2 | ⟨g, cap, cur, hv, hg, r⟩
  · exact .inl h2
  · exact .inr ⟨g, cap, cur, hv, by omega, r⟩
theorem pnum0 (l : List UInt8) (v : Value) (w : World) (B : Nat) (hl : SL w B v l) (h : 8 ≤ l.length) : Calls Tryd.prog 81 #[v, .int .i64 0] w fun e w' => e = .returned (.int .u32 ((wd l 0).toNat : Int)) ∧ ∃ n, w' = w.drewN n :=
  pnum_any l 0 v w B hl (by omega) (by omega)
theorem pnum1 (l : List UInt8) (v : Value) (w : World) (B : Nat) (hl : SL w B v l) (h : 8 ≤ l.length) : Calls Tryd.prog 81 #[v, .int .i64 1] w fun e w' => e = .returned (.int .u32 ((wd l 1).toNat : Int)) ∧ ∃ n, w' = w.drewN n :=
  pnum_any l 1 v w B hl (by omega) (by omega)
set_option maxRecDepth 100000 in
set_option maxHeartbeats 1600000 in
theorem ptra_any (g : Nat → UInt32) (l : List UInt8) (v : Value) (w : World) (B : Nat) (hl : SL w w.heap.size v l) (h : l.length = 8) :
    Calls Tryd.prog 78 #[v, kv g] w fun e w' => ∃ v', e = .returned v' ∧ OB w' w.heap.size v' (outB (rds g 16 (inB l))) ∧ Below w.heap.size w w' := by
  have HN0 := Lib.hid (fun W (hb : Below w.heap.size w W) => pnum0 l v W w.heap.size (hl.below hb) (by omega))
  have HN1 := Lib.hid (fun W (hb : Below w.heap.size w W) => pnum1 l v W w.heap.size (hl.below hb) (by omega))
  obtain ⟨A1, c1, rfl, h11, h12, h13⟩ := hl
  have HR : ∃ s, Hid (s = rds g 16 (inB l)) := ⟨_, rfl⟩
  have HK : Hid (∀ W : World, AR (W.alloc (Obj.cells (kcs g 16).toArray 143)) W.heap.size g 16) := fun W => heap_alloc_new W _
  unfold kv
  clear h13 h
  obtain ⟨s, HS⟩ := HR
  rw [← HS.out]
  generalize (kcs g 16).toArray = cs at *
  go_enter Tryd.func78, Tryd.ntmps78
  go_wp2_with fail
  have hrow := HK.out w
  have hbel := (Below.refl w.heap.size w).alloc (Nat.le_refl _) (Obj.cells cs 143)
  generalize w.alloc (Obj.cells cs 143) = w1 at *
  refine (HN0.out _ hbel).mono ?_
  rintro e w' ⟨rfl, n0, rfl⟩
  replace hrow : AR (w1.drewN n0) w.heap.size g 16 := hrow
  replace hbel := below_drewN hbel n0
  generalize w1.drewN n0 = w2 at *
  clear w1
  go_wp2_with fail
  refine (HN1.out _ hbel).mono ?_
  rintro e w' ⟨rfl, n1, rfl⟩
  replace hrow : AR (w2.drewN n1) w.heap.size g 16 := hrow
  replace hbel := below_drewN hbel n1
  generalize w2.drewN n1 = w1 at *
  clear w2
  have hlt : w.heap.size < w1.heap.size := by
    have := hrow.cells 0 (by omega)
    exact World.block_lt_of_cell? w1 _ this
  have HH0 : ∃ p : UInt32 × UInt32, Hid (p = inB l) ∧ p.1 = wd l 0 ∧ p.2 = wd l 1 := ⟨inB l, rfl, rfl, rfl⟩
  obtain ⟨p, HP, p1, p2⟩ := HH0
  rw [← p1, ← p2]
  have HP1 := Lib.hid p1
  clear p1 p2
  go_wp2_with fail
  go_loopw [12] (fun i wr => ∃ k : Nat, k ≤ 16 ∧ i = .int .i64 k ∧ wr.heap[w1.heap.size]? = some (.cells #[.int .u32 ((rds g k p).1.toNat : Int), .int .u32 ((rds g k p).2.toNat : Int)] 149 (0, 0)) ∧ AR wr w.heap.size g 16 ∧ Below w.heap.size w wr) (fun i _ => 16 - (intOf i).toNat)
  case atStart => exact ⟨0, by omega, rfl, heap_alloc_new _ _, hrow.alloc _ hlt, hbel.alloc (by omega) _⟩
  case round =>
    obtain ⟨k, hk, rfl, hx, hrow2, hbel2⟩ := hrel
    have x0 := cell_of_row _ w1.heap.size 0 _ _ _ hx
    have x1 := cell_of_row _ w1.heap.size 1 _ _ _ hx
    have f0 := frozen_of_row _ w1.heap.size 0 _ _ hx
    have f1 := frozen_of_row _ w1.heap.size 1 _ _ hx
    simp only [List.getElem?_toArray, List.getElem?_cons_zero, List.getElem?_cons_succ] at x0 x1
    by_cases h1 : k < 16
    · have g1 := hrow2.cells k h1
      have HC : Hid (∀ W, Calls Tryd.prog 82 #[.int .u32 ((rds g k p).2.toNat : Int), .int .u32 ((g k).toNat : Int)] W fun e w' => e = .returned (.int .u32 ((f32 (rds g k p).2 (g k)).toNat : Int)) ∧ w' = W) := fun W => (pscr_any _ _ W).mono fun e w' h => ⟨h.1, h.2.symm⟩
      have HX := Lib.hid (u32_xor_nat (rds g k p).1.toNat (f32 (rds g k p).2 (g k)).toNat (u32_lt _) (u32_lt _))
      have HS2 : Hid (rds g (k + 1) p = ((rds g k p).2, (rds g k p).1 ^^^ f32 (rds g k p).2 (g k))) := rfl
      generalize rds g k p = q at *
      obtain ⟨q1, q2⟩ := q
      simp only at *
      have l1 := u32_lt q1
      have l2 := u32_lt q2
      have l3 := u32_lt (f32 q2 (g k))
      generalize f32 q2 (g k) = y at *
      go_wp2
      refine wp_region_still_tail 12 (by kernel_rfl) (by kernel_rfl) ?_
      simp only [List.take_succ_cons, List.take_zero, List.drop_succ_cons, List.drop_zero]
      repeat still_step
      still_call (HC.out _)
      repeat still_step
      refine wpStill_nil ?_
      change wpList _ _ _ _ _ wr.drew
      replace hx : wr.drew.heap[w1.heap.size]? = _ := hx
      replace hrow2 : AR wr.drew w.heap.size g 16 := hrow2
      replace hbel2 := hbel2.drew
      replace x0 : wr.drew.cell? ⟨w1.heap.size, 0, none⟩ = _ := x0
      replace x1 : wr.drew.cell? ⟨w1.heap.size, 1, none⟩ = _ := x1
      replace f0 : wr.drew.frozen? ⟨w1.heap.size, 0, none⟩ = _ := f0
      replace f1 : wr.drew.frozen? ⟨w1.heap.size, 1, none⟩ = _ := f1
      generalize wr.drew = w5 at *
      go_wp2
      go_roundw
      case rel => exact ⟨k + 1, by omega, by go_num, by rw [HS2.out, UInt32.toNat_xor]; exact row2_set hx _ _ _ _ rfl HX.out, (hrow2.off _ _ (by omega)).off _ _ (by omega), (hbel2.setCell (p := ⟨w1.heap.size, 0, none⟩) (Nat.le_of_lt hlt) _).setCell (p := ⟨w1.heap.size, 1, none⟩) (Nat.le_of_lt hlt) _⟩
      case measure => simp [intOf]; omega
    · have hk : k = 16 := by omega
      subst hk
      have HS3 : Hid (s = rds g 16 p) := by show _ = _; rw [HS.out, HP.out]
      generalize rds g 16 p = q at *
      obtain rfl := HS3.out
      obtain ⟨q1, q2⟩ := s
      simp only at x0 x1 hx
      have hws : w1.heap.size < wr.heap.size := World.block_lt_of_cell? wr _ x0
      have hmk := mk_eight0
      have HE := Lib.hid (rfl : outB (q1, q2) = (putL q2.toNat 4) ++ putL q1.toNat 4)
      have hbb : w.heap.size ≤ wr.heap.size := by omega
      have HA1 : Hid (Calls Tryd.prog 83 #[.slice (some ⟨wr.heap.size, 0, none⟩) 0 8, .int .u32 (q2.toNat : Int)] (wr.alloc (.cells #[.int .u8 0, .int .u8 0, .int .u8 0, .int .u8 0, .int .u8 0, .int .u8 0, .int .u8 0, .int .u8 0] 5)).drew fun e w' => ∃ v', e = .returned v' ∧ OB w' wr.heap.size v' (putL q2.toNat 4) ∧ Below wr.heap.size wr w') :=
        (papp_any [] q2 _ _ wr.heap.size (OB.drew (ob_eight0 wr _ (Nat.le_refl _))) (by show wr.heap.size ≤ (wr.alloc _).heap.size; rw [alloc_size]; exact Nat.le_succ _) (by simp)).mono fun e w' ⟨v', h1, h2, h3⟩ => ⟨v', h1, h2, ((Below.refl wr.heap.size wr).alloc (Nat.le_refl _) _).drew.trans h3⟩
      have HA2 : Hid (∀ v w', OB w' wr.heap.size v (putL q2.toNat 4) → Below wr.heap.size wr w' → Calls Tryd.prog 83 #[v, .int .u32 (q1.toNat : Int)] w' fun e w'' => ∃ v', e = .returned v' ∧ OB w'' wr.heap.size v' ((putL q2.toNat 4) ++ putL q1.toNat 4) ∧ Below wr.heap.size wr w'') :=
        fun v w' h hb => (papp_any _ q1 v w' wr.heap.size h hb.size (by simp [putL_length])).mono fun e w' ⟨v', h1, h2, h3⟩ => ⟨v', h1, h2, hb.trans h3⟩
      have HX0 : Hid (∀ W, Below wr.heap.size wr W → W.cell? ⟨w1.heap.size, 0, none⟩ = some (.int .u32 (q1.toNat : Int)) ∧ W.cell? ⟨w1.heap.size, 1, none⟩ = some (.int .u32 (q2.toNat : Int))) :=
        fun W hb => ⟨(hb.cell (p := ⟨w1.heap.size, 0, none⟩) hws).trans x0, (hb.cell (p := ⟨w1.heap.size, 1, none⟩) hws).trans x1⟩
      have ba := ((Below.refl wr.heap.size wr).alloc (Nat.le_refl _) (.cells #[.int .u8 0, .int .u8 0, .int .u8 0, .int .u8 0, .int .u8 0, .int .u8 0, .int .u8 0, .int .u8 0] 5)).drew
      have bd := (Below.refl wr.heap.size wr).drew
      go_wp2
      go_region_held3 (fun W => W.cell? ⟨w1.heap.size, 0, none⟩ = some (.int .u32 (q1.toNat : Int)) ∧ W.cell? ⟨w1.heap.size, 1, none⟩ = some (.int .u32 (q2.toNat : Int)))
        (exact HX0.out _ (by assumption))
        (first
          | (go_at_call 83; (with_reducible refine HA1.out.mono ?_); rintro e w6 ⟨v6, rfl, hv6, hb6⟩; obtain ⟨A6, c6, rfl⟩ := hv6.value)
          | (go_at_call 83; (with_reducible refine (HA2.out _ _ hv6 hb6).mono ?_); rintro e w7 ⟨v7, rfl, hv7, hb7⟩; obtain ⟨A7, c7, rfl⟩ := hv7.value))
      all_goals
        go_wp2
        go_ret
        exact ⟨_, rfl, hv7.more hbb, hbel2.trans (hb7.mono hbb)⟩
end Go.Proofs.YtdalcldilmmgmaaDoor
