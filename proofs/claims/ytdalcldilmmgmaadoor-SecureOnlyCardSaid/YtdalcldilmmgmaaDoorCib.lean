
/-
  The cipher of the program: the keys of the rounds, a number appended.
-/
import Derived.Test.YtdalcldilmmgmaaDoorCia
namespace Go.Proofs.YtdalcldilmmgmaaDoor
set_option linter.unusedVariables false
set_option linter.unusedSimpArgs false
open Go.RowKit

/-- Some bytes appended (they have just been laid into a block of their own, number B). -/
theorem wpList_appN {ops : Array Oper} {rest : List Oper} {o : Oper} {a : Act} {W : World} {Q : Exit → Act → World → Prop} (hgd : o.guard = none) (s x : Operand)
    (ho : o.op = .call { callee := .builtin .append, args := #[s, x], argTypes := #[22, 22] }) (w : World) (base : Nat) (v : Value) (l m : List UInt8) (B n : Nat) (cs : Array Value)
    (hs : a.eval s = v) (hn : m.length = n) (hx : a.eval x = .slice (some ⟨B, 0, none⟩) n n) (hW : Below w.heap.size w W) (hown : OB w base v l) (hB : W.heap[B]? = some (.cells cs 5 (0, 0))) (hcs : cs = (m.map bv).toArray)
    (hlen : l.length + m.length ≤ 100000000) (hbase : base ≤ w.heap.size)
    (h : ∀ v' w', OB w' base v' (l ++ m) → Below base w w' → wpList Tryd.prog ops Q rest (a.put o.dst v') w') : wpList Tryd.prog ops Q (o :: rest) a W := by
  subst hn
  refine wpList_appS hgd s x ho w base v l m _ _ hs hx hW hown (fun _ => ⟨B, 0, rfl, fun k hk => ?_⟩) hlen hbase h
  rw [Nat.zero_add, cell_of_row W B _ _ 5 (0, 0) hB, hcs]
  simp only [List.getElem?_toArray]
  exact map_bv_get m k hk

theorem putL4 (x : UInt32) : (putL x.toNat 4).map bv = [.int .u8 ((x.toNat : Int) / 16777216), .int .u8 ((x.toNat : Int) / 65536 % 256), .int .u8 ((x.toNat : Int) / 256 % 256), .int .u8 ((x.toNat : Int) % 256)] := by
  have hx := u32_lt x
  simp [putL, bv]
  omega

set_option maxRecDepth 100000 in
theorem papp_any (l : List UInt8) (x : UInt32) (v : Value) (w : World) (base : Nat) (hl : OB w base v l) (hb : base ≤ w.heap.size) (hs : l.length ≤ 1000) :
    Calls Tryd.prog 83 #[v, .int .u32 (x.toNat : Int)] w fun e w' => ∃ v', e = .returned v' ∧ OB w' base v' (l ++ putL x.toNat 4) ∧ Below base w w' := by
  have hx := u32_lt x
  have HP := Lib.hid (putL4 x)
  obtain ⟨A, c, rfl⟩ := hl.value
  go_enter Tryd.func83, Tryd.ntmps83
  go_wp2_with (at_builtin; refine wpList_appN rfl (.tmp 5) (.tmp 17) rfl w base _ l (putL x.toNat 4) w.heap.size 4 _ rfl (putL_length _ _) rfl ((Below.refl _ _).alloc (Nat.le_refl _) _) hl (heap_alloc_new w _) (by rw [HP.out]) (by rw [putL_length]; omega) hb ?_; intro v1 w1 hv1 hb1)
  go_ret
  exact ⟨_, rfl, hv1, hb1⟩

/-- The cells of an array of sixteen words of which the first k are those of g, and the others 0. -/
def kcs (g : Nat → UInt32) (k : Nat) : List Value := (List.range 16).map fun i => .int .u32 (if i < k then ((g i).toNat : Int) else 0)
theorem kcs_len (g : Nat → UInt32) (k : Nat) : (kcs g k).length = 16 := by simp [kcs]
theorem kcs_set (g : Nat → UInt32) (k : Nat) (z : Int) (hz : z = ((g k).toNat : Int)) : (kcs g k).toArray.setIfInBounds k (.int .u32 z) = (kcs g (k + 1)).toArray := by
  subst hz
  rw [List.setIfInBounds_toArray]
  congr 1
  apply List.ext_getElem (by simp [kcs])
  intro i h1 h2
  rw [List.getElem_set]
  simp only [kcs, List.getElem_map, List.getElem_range]
  by_cases e : k = i
  · subst e
    simp
  · rw [if_neg e]
    by_cases h : i < k
    · rw [if_pos h, if_pos (by omega)]
    · rw [if_neg h, if_neg (by omega)]
theorem kcs_get (g : Nat → UInt32) (k i : Nat) (hi : i < 16) : (kcs g k).toArray[i]? = some (.int .u32 (if i < k then ((g i).toNat : Int) else 0)) := by
  rw [List.getElem?_toArray]
  simp [kcs, hi]
/-- An array of sixteen words in block g. -/
def AR (w : World) (b : Nat) (g : Nat → UInt32) (k : Nat) : Prop := w.heap[b]? = some (.cells (kcs g k).toArray 143 (0, 0))
theorem AR.cell {w : World} {b : Nat} {g : Nat → UInt32} {k : Nat} (h : AR w b g k) (i : Nat) (hi : i < 16) : w.cell? ⟨b, i, none⟩ = some (.int .u32 (if i < k then ((g i).toNat : Int) else 0)) := by
  rw [cell_of_row w b i _ 143 (0, 0) h, kcs_get g k i hi]
theorem AR.set {w : World} {b : Nat} {g : Nat → UInt32} {k : Nat} (h : AR w b g k) (z : Int) (hz : z = ((g k).toNat : Int)) : AR (w.setCell ⟨b, k, none⟩ (.int .u32 z)) b g (k + 1) := by
  unfold AR
  rw [heap_setCell_same w b k _ 143 _ h, kcs_set g k z hz]

theorem alloc_size (w : World) (o : Obj) : (w.alloc o).heap.size = w.heap.size + 1 := by simp
theorem AR.cells {w : World} {b : Nat} {g : Nat → UInt32} (h : AR w b g 16) (i : Nat) (hi : i < 16) : w.cell? ⟨b, i, none⟩ = some (.int .u32 ((g i).toNat : Int)) := by
  have := h.cell i hi
  rwa [if_pos hi] at this
theorem AR.off {w : World} {b b' : Nat} {g : Nat → UInt32} {k : Nat} (h : AR w b g k) (i : Nat) (u : Value) (hb : b ≠ b') : AR (w.setCell ⟨b', i, none⟩ u) b g k := by
  unfold AR
  rw [heap_setCell_other _ _ _ _ (by exact hb)]
  exact h
theorem AR.froz {w : World} {b : Nat} {g : Nat → UInt32} {k : Nat} (h : AR w b g k) (i : Nat) : w.frozen? ⟨b, i, none⟩ = false := frozen_of_row w b i _ 143 h
theorem AR.zero {w : World} {b : Nat} {g : Nat → UInt32} (h : AR w b g 0) (i : Nat) (hi : i < 16) : w.cell? ⟨b, i, none⟩ = some (.int .u32 0) := by
  have := h.cell i hi
  rwa [if_neg (by omega)] at this
theorem alloc2_old (w : World) (o o' : Obj) : ((w.alloc o).alloc o').heap[w.heap.size]? = some o := by
  rw [Below.heap_alloc _ _ _ (by rw [alloc_size]; omega)]
  exact heap_alloc_new w o
theorem alloc2_new (w : World) (o o' : Obj) : ((w.alloc o).alloc o').heap[w.heap.size + 1]? = some o' := by
  have := heap_alloc_new (w.alloc o) o'
  rwa [alloc_size] at this
theorem alloc2_below (w : World) (o o' : Obj) : Below w.heap.size w ((w.alloc o).alloc o') := ((Below.refl _ _).alloc (Nat.le_refl _) _).alloc (by rw [alloc_size]; omega) _
/-- All sixteen cells written one after the other. -/
def fillW (w : World) (b : Nat) (g : Nat → UInt32) : World := ((((((((((((((((w.setCell ⟨b, 0, none⟩ (.int .u32 ((g 0).toNat : Int))).setCell ⟨b, 1, none⟩ (.int .u32 ((g 1).toNat : Int))).setCell ⟨b, 2, none⟩ (.int .u32 ((g 2).toNat : Int))).setCell ⟨b, 3, none⟩ (.int .u32 ((g 3).toNat : Int))).setCell ⟨b, 4, none⟩ (.int .u32 ((g 4).toNat : Int))).setCell ⟨b, 5, none⟩ (.int .u32 ((g 5).toNat : Int))).setCell ⟨b, 6, none⟩ (.int .u32 ((g 6).toNat : Int))).setCell ⟨b, 7, none⟩ (.int .u32 ((g 7).toNat : Int))).setCell ⟨b, 8, none⟩ (.int .u32 ((g 8).toNat : Int))).setCell ⟨b, 9, none⟩ (.int .u32 ((g 9).toNat : Int))).setCell ⟨b, 10, none⟩ (.int .u32 ((g 10).toNat : Int))).setCell ⟨b, 11, none⟩ (.int .u32 ((g 11).toNat : Int))).setCell ⟨b, 12, none⟩ (.int .u32 ((g 12).toNat : Int))).setCell ⟨b, 13, none⟩ (.int .u32 ((g 13).toNat : Int))).setCell ⟨b, 14, none⟩ (.int .u32 ((g 14).toNat : Int))).setCell ⟨b, 15, none⟩ (.int .u32 ((g 15).toNat : Int)))
theorem AR.fill {w : World} {b : Nat} {g : Nat → UInt32} (h : AR w b g 0) : AR (fillW w b g) b g 16 := ((((((((((((((((h.set _ rfl).set _ rfl).set _ rfl).set _ rfl).set _ rfl).set _ rfl).set _ rfl).set _ rfl).set _ rfl).set _ rfl).set _ rfl).set _ rfl).set _ rfl).set _ rfl).set _ rfl).set _ rfl)
theorem fill_below {B : Nat} {a w : World} {b : Nat} (h : Below B a w) (hb : B ≤ b) (g : Nat → UInt32) : Below B a (fillW w b g) := ((((((((((((((((h.setCell (p := ⟨b, 0, none⟩) hb _).setCell (p := ⟨b, 1, none⟩) hb _).setCell (p := ⟨b, 2, none⟩) hb _).setCell (p := ⟨b, 3, none⟩) hb _).setCell (p := ⟨b, 4, none⟩) hb _).setCell (p := ⟨b, 5, none⟩) hb _).setCell (p := ⟨b, 6, none⟩) hb _).setCell (p := ⟨b, 7, none⟩) hb _).setCell (p := ⟨b, 8, none⟩) hb _).setCell (p := ⟨b, 9, none⟩) hb _).setCell (p := ⟨b, 10, none⟩) hb _).setCell (p := ⟨b, 11, none⟩) hb _).setCell (p := ⟨b, 12, none⟩) hb _).setCell (p := ⟨b, 13, none⟩) hb _).setCell (p := ⟨b, 14, none⟩) hb _).setCell (p := ⟨b, 15, none⟩) hb _)
/-- The array as a value. -/
def kv (g : Nat → UInt32) : Value := .agg (kcs g 16).toArray
theorem kv_lit (g : Nat → UInt32) : kv g = .agg #[.int .u32 ((g 0).toNat : Int), .int .u32 ((g 1).toNat : Int), .int .u32 ((g 2).toNat : Int), .int .u32 ((g 3).toNat : Int), .int .u32 ((g 4).toNat : Int), .int .u32 ((g 5).toNat : Int), .int .u32 ((g 6).toNat : Int), .int .u32 ((g 7).toNat : Int), .int .u32 ((g 8).toNat : Int), .int .u32 ((g 9).toNat : Int), .int .u32 ((g 10).toNat : Int), .int .u32 ((g 11).toNat : Int), .int .u32 ((g 12).toNat : Int), .int .u32 ((g 13).toNat : Int), .int .u32 ((g 14).toNat : Int), .int .u32 ((g 15).toNat : Int)] := rfl
theorem results_cell1 {P : Program} {fn : Func} {p : Tmp} {ty : TypeId} (h : fn.results = #[.cell p ty]) (tmps : Array Value) (w : World) (g : Nat) (t : TypeId) (cs : Array Value) (fr : Nat × Nat) (d : TypeDesc)
    (hp : tmps.getD p undef = .pointer (some ⟨g, 0, none⟩)) (hg : w.heap[g]? = some (.cells cs t fr))
    (hu : P.underlying ty = some d) (hd : (match d with | .struct _ | .array _ _ => true | _ => false) = true) (hi : (P.info? ty).map (·.size) = some cs.size) :
    (results fn tmps).run P w = .ok (.agg cs) w := by
  have hp' : tmps[p]?.getD undef = .pointer (some ⟨g, 0, none⟩) := by simpa using hp
  simp [results, h, hp', asAddr, run_loadVar_row w g t ty cs fr d hg hu hd hi]
theorem info41 (g : Nat → UInt32) : (Tryd.prog.info? 143).map (·.size) = some (kcs g 16).toArray.size := by rw [List.size_toArray, kcs_len]; kernel_rfl
theorem rk_walk (l : List UInt8) (k : Nat) (hk : k < 16) : (((wd l (k % 4)).toNat : Int) + (k : Int) * 2654435769) % 4294967296 = ((rk l k).toNat : Int) := by
  unfold rk
  rw [UInt32.toNat_add, UInt32.toNat_mul]
  have e : (UInt32.ofNat k).toNat = k := by
    rw [UInt32.toNat_ofNat']
    exact Nat.mod_eq_of_lt (by omega)
  rw [e]
  simp

theorem pnum_mod (l : List UInt8) (k : Nat) (v : Value) (w : World) (B : Nat) (hl : SL w B v l) (h : 16 ≤ l.length) : Calls Tryd.prog 81 #[v, .int .i64 ((k : Int) % 4)] w fun e w' => e = .returned (.int .u32 ((wd l (k % 4)).toNat : Int)) ∧ ∃ n, w' = w.drewN n := by
  have e : (k : Int) % 4 = ((k % 4 : Nat) : Int) := by omega
  rw [e]
  exact pnum_any l (k % 4) v w B hl (by omega) (by omega)
set_option maxRecDepth 100000 in
set_option maxHeartbeats 1600000 in
theorem pexp_any (l : List UInt8) (v : Value) (w : World) (B : Nat) (hB : B ≤ w.heap.size) (hl : SL w B v l) (h : l.length = 16) :
    Calls Tryd.prog 79 #[v] w fun e w' => e = .returned (kv (rk l)) ∧ Below w.heap.size w w' := by
  have HL : Hid (SL w B v l) := hl
  have HN := Lib.hid (fun k wr (hk : k < 16) (hb : Below w.heap.size w wr) => pnum_mod l k v wr B (hl.below (hb.mono hB)) (by omega))
  obtain ⟨A1, c1, rfl, h11, h12, h13⟩ := hl
  clear h13 h HL
  go_enter Tryd.func79, Tryd.ntmps79
  go_wp2_with fail
  go_loopw [5] (fun i wr => ∃ k : Nat, k ≤ 16 ∧ i = .int .i64 k ∧ AR wr (w.heap.size + 1) (rk l) k ∧ AR wr w.heap.size (rk l) 0 ∧ Below w.heap.size w wr) (fun i _ => 16 - (intOf i).toNat)
  case atStart => exact ⟨0, by omega, rfl, alloc2_new _ _ _, alloc2_old _ _ _, alloc2_below _ _ _⟩
  case round =>
    obtain ⟨k, hk, rfl, hrow, hro0, hbel⟩ := hrel
    by_cases h1 : k < 16
    · have HN := Lib.hid (HN.out k wr h1 hbel)
      have HR := Lib.hid (rk_walk l k h1)
      have hx := u32_lt (wd l (k % 4))
      generalize (wd l (k % 4)).toNat = x at *
      have g1 := hrow.cell k h1
      have g2 : wr.frozen? ⟨w.heap.size + 1, k, none⟩ = false := frozen_of_row wr _ _ _ _ hrow
      go_wp2_with (go_at_call 81; refine HN.out.mono ?_; rintro e w' ⟨rfl, n, rfl⟩)
      go_roundw
      case rel => exact ⟨k + 1, by omega, by go_num, hrow.set _ HR.out, hro0.off _ _ (by omega), (below_drewN hbel n).setCell (p := ⟨w.heap.size + 1, k, none⟩) (Nat.le_succ _) _⟩
      case measure => simp [intOf]; omega
    · have hk : k = 16 := by omega
      subst hk
      have g0 := hrow.cells 0 (by omega)
      have g1 := hrow.cells 1 (by omega)
      have g2 := hrow.cells 2 (by omega)
      have g3 := hrow.cells 3 (by omega)
      have g4 := hrow.cells 4 (by omega)
      have g5 := hrow.cells 5 (by omega)
      have g6 := hrow.cells 6 (by omega)
      have g7 := hrow.cells 7 (by omega)
      have g8 := hrow.cells 8 (by omega)
      have g9 := hrow.cells 9 (by omega)
      have g10 := hrow.cells 10 (by omega)
      have g11 := hrow.cells 11 (by omega)
      have g12 := hrow.cells 12 (by omega)
      have g13 := hrow.cells 13 (by omega)
      have g14 := hrow.cells 14 (by omega)
      have g15 := hrow.cells 15 (by omega)
      have n1 : ¬ w.heap.size = w.heap.size + 1 := by omega
      have z0 := hro0.zero 0 (by omega)
      have f0 := hro0.froz 0
      have z1 := hro0.zero 1 (by omega)
      have f1 := hro0.froz 1
      have z2 := hro0.zero 2 (by omega)
      have f2 := hro0.froz 2
      have z3 := hro0.zero 3 (by omega)
      have f3 := hro0.froz 3
      have z4 := hro0.zero 4 (by omega)
      have f4 := hro0.froz 4
      have z5 := hro0.zero 5 (by omega)
      have f5 := hro0.froz 5
      have z6 := hro0.zero 6 (by omega)
      have f6 := hro0.froz 6
      have z7 := hro0.zero 7 (by omega)
      have f7 := hro0.froz 7
      have z8 := hro0.zero 8 (by omega)
      have f8 := hro0.froz 8
      have z9 := hro0.zero 9 (by omega)
      have f9 := hro0.froz 9
      have z10 := hro0.zero 10 (by omega)
      have f10 := hro0.froz 10
      have z11 := hro0.zero 11 (by omega)
      have f11 := hro0.froz 11
      have z12 := hro0.zero 12 (by omega)
      have f12 := hro0.froz 12
      have z13 := hro0.zero 13 (by omega)
      have f13 := hro0.froz 13
      have z14 := hro0.zero 14 (by omega)
      have f14 := hro0.froz 14
      have z15 := hro0.zero 15 (by omega)
      have f15 := hro0.froz 15
      go_wp2
      exact bodyPost_ret (results_cell1 rfl _ _ w.heap.size 143 _ _ _ rfl hro0.fill Tryd.underlying143 rfl (info41 _)) rfl ⟨rfl, fill_below hbel (Nat.le_refl _) _⟩
end Go.Proofs.YtdalcldilmmgmaaDoor
