/-
  The walks of codeWord of pages and of head.
-/
import Derived.Test.YtiholfpcndjliaaDoorPgb
namespace Go.Proofs.YtiholfpcndjliaaDoor
set_option linter.unusedVariables false
set_option linter.unusedSimpArgs false
open Go.RowKit

theorem results_cell2 {P : Program} {fn : Func} {p u : Tmp} {ty : TypeId} (h : fn.results = #[.cell p ty, .tmp u]) (tmps : Array Value) (w : World) (g : Nat) (t : TypeId) (cs : Array Value) (fr : Nat × Nat) (d : TypeDesc)
    (hp : tmps.getD p undef = .pointer (some ⟨g, 0, none⟩)) (hg : w.heap[g]? = some (.cells cs t fr))
    (hu : P.underlying ty = some d) (hd : (match d with | .struct _ | .array _ _ => true | _ => false) = true) (hi : (P.info? ty).map (·.size) = some cs.size) :
    (results fn tmps).run P w = .ok (.tuple #[.agg cs, tmps.getD u undef]) w := by
  have hp' : tmps[p]?.getD undef = .pointer (some ⟨g, 0, none⟩) := by simpa using hp
  simp [results, h, hp', asAddr, run_loadVar_row w g t ty cs fr d hg hu hd hi]
theorem info123 : (Tryd.prog.info? 123).map (·.size) = some 2 := by kernel_rfl

/-- codeWord of data that fit into a word. -/
theorem pcode_any (d : Nat) (W : World) (hd : d < 16777216) (hT : Tb W) : Calls Tryd.prog 81 #[.int .i64 (d : Int)] W fun e W' => e = .returned (.int .u32 (encW d : Int)) ∧ ∃ n, W' = W.drewN n := by
  have HE := penc_any (d : Int) W (by omega) (by omega) hT
  unfold PencR at HE
  rw [if_neg (by omega), if_neg (by omega), Int.toNat_natCast] at HE
  have HE := Lib.hid HE
  clear hT
  generalize encW d = x at *
  go_enter Tryd.func81, Tryd.ntmps81
  go_wp2_with (go_at_call 97; refine HE.out.mono ?_; rintro e w' ⟨rfl, n, rfl⟩)
  go_ret
  exact ⟨rfl, n, rfl⟩

section
variable {w w' : World} {X : Nat → Prop} {pb b g gf gh lf : Nat} {s : St} {d : PD} {fx : Int}
/-- A word that is there, read with power. -/
theorem read_in (h : MA w b g s lf) (hon : s.on = true) (z : Int) (a : Nat) (hz : z = (a : Int)) (ha : a < s.ws.length) :
    Calls Tryd.prog 82 #[.pointer (some ⟨b, 0, none⟩), .int .i64 z] w fun e w' => e = .returned (.tuple #[.int .u32 (s.ws.getD a 0 : Int), .int .i64 0]) ∧ w' = w := by
  subst hz
  have h2 := h.n2
  have hE : accE s (a : Int) = 0 := by unfold accE; rw [if_neg (by rw [hon]; simp), if_pos (by omega)]
  have := read_any h (a : Int) (by omega)
  rw [hE, rdV, if_pos hE, Int.toNat_natCast] at this
  exact this
/-- The number of the corrected words has turned. -/
theorem PM.fix (h : PM w X pb b g gf gh s lf d fx) (y : Int) : PM (w.setCell ⟨pb, 2, none⟩ (.int .i64 y)) X pb b g gf gh s lf d y := by
  have hk : KX X w (w.setCell ⟨pb, 2, none⟩ (.int .i64 y)) := (KX.refl X w).set _ _ h.x1
  have e2 : (w.setCell ⟨pb, 2, none⟩ (.int .i64 y)).heap[gf]? = w.heap[gf]? := set_blk (Ne.symm h.pg.n1)
  have e3 : (w.setCell ⟨pb, 2, none⟩ (.int .i64 y)).heap[gh]? = w.heap[gh]? := set_blk (Ne.symm h.pg.n2)
  have e4 : (w.setCell ⟨pb, 2, none⟩ (.int .i64 y)).heap[b]? = w.heap[b]? := set_blk (Ne.symm h.d1)
  have e5 : (w.setCell ⟨pb, 2, none⟩ (.int .i64 y)).heap[g]? = w.heap[g]? := set_blk (Ne.symm h.d2)
  have hs := hk.size
  have hr := heap_set_row (i := 2) (u := .int .i64 y) h.pg.row
  exact ⟨h.ma.keep e4 e5 hs, ⟨hr, fun f hf => (World.cell?_of_block (w := w) e2).trans (h.pg.pg f hf), fun f hf => (World.cell?_of_block (w := w) e2).trans (h.pg.tn f hf), fun f hf => (World.cell?_of_block (w := w) e3).trans (h.pg.ho f hf),
    fun j => (World.frozen?_of_block (w := w) e2).trans (h.pg.ff j), fun j => (World.frozen?_of_block (w := w) e3).trans (h.pg.fh j), h.pg.n1, h.pg.n2, h.pg.n3, Nat.lt_of_lt_of_le h.pg.l1 hs, Nat.lt_of_lt_of_le h.pg.l2 hs, Nat.lt_of_lt_of_le h.pg.l3 hs, h.pg.f1, h.pg.p1, h.pg.p2⟩,
    h.x1, h.x2, h.x3, h.x4, h.x5, h.d1, h.d2, h.d3, h.d4, h.d5, h.d6, h.tb.kx hk h.y0 h.y1, h.y0, h.y1⟩
/-- A store off the pages and their memory. -/
theorem PM.off (h : PM w X pb b g gf gh s lf d fx) {p : Addr} (u : Value) (hp : ¬ X p.block) (h0 : p.block ≠ 0) (h1 : p.block ≠ 1) : PM (w.setCell p u) X pb b g gf gh s lf d fx := by
  have e : ∀ k, X k → (w.setCell p u).heap[k]? = w.heap[k]? := fun k hk => set_blk (fun e => hp (e ▸ hk))
  have hs := set_size w p u
  have ht : Tb (w.setCell p u) := by
    obtain ⟨⟨t, fr, a1⟩, t', fr', a2⟩ := h.tb
    exact ⟨⟨t, fr, (set_blk (Ne.symm h1)).trans a1⟩, t', fr', (set_blk (Ne.symm h0)).trans a2⟩
  exact ⟨h.ma.keep (e _ h.x2) (e _ h.x3) hs, h.pg.keep (e _ h.x1) (e _ h.x4) (e _ h.x5) hs, h.x1, h.x2, h.x3, h.x4, h.x5, h.d1, h.d2, h.d3, h.d4, h.d5, h.d6, ht, h.y0, h.y1⟩

/-- The data of a head after k rounds. -/
def hdX (ws : List Nat) (f k : Nat) : Array Value := #[.int .i64 (if 0 < k then (decD (ws.getD (f * 19) 0) : Int) else 0), .int .i64 (if 1 < k then (decD (ws.getD (f * 19 + 1) 0) : Int) else 0), .int .i64 (if 2 < k then (decD (ws.getD (f * 19 + 2) 0) : Int) else 0)]
theorem hdX_set (ws : List Nat) (f k : Nat) (hk : k < 3) : (hdX ws f k).setIfInBounds k (.int .i64 (decD (ws.getD (f * 19 + k) 0) : Int)) = hdX ws f (k + 1) := by
  have h3 : k = 0 ∨ k = 1 ∨ k = 2 := by omega
  rcases h3 with rfl | rfl | rfl <;> rfl
theorem hdX_at (ws : List Nat) (f k : Nat) (hk : k < 3) : (hdX ws f k)[k]? = some (.int .i64 0) := by
  have h3 : k = 0 ∨ k = 1 ∨ k = 2 := by omega
  rcases h3 with rfl | rfl | rfl <;> rfl
/-- What a record holds beside the memory and the number of the corrected words. -/
structure PR where
  cu : Int
  v3 : Value
  v4 : Value
  v5 : Value
  v6 : Value
def hrow (b : Nat) (R : PR) (fx : Int) : Array Value := #[.pointer (some ⟨b, 0, none⟩), .int .i64 R.cu, .int .i64 fx, R.v3, R.v4, R.v5, R.v6]
/-- A record of pages, whatever it knows, and its memory. -/
structure PH (w : World) (X : Nat → Prop) (pb b g : Nat) (s : St) (lf : Nat) (R : PR) (fx : Int) : Prop where
  ma : MA w b g s lf
  row : w.heap[pb]? = some (.cells (hrow b R fx) 103 (0, 0))
  x1 : X pb
  x2 : X b
  x3 : X g
  d1 : pb ≠ b
  d2 : pb ≠ g
  tb : Tb w
  y0 : ¬ X 0
  y1 : ¬ X 1
section
variable {R : PR}
theorem PH.l1 (h : PH w X pb b g s lf R fx) : pb < w.heap.size := (Array.getElem?_eq_some_iff.1 h.row).1
theorem PH.keep (h : PH w X pb b g s lf R fx) (hk : ∀ k, k = pb ∨ k = b ∨ k = g → w'.heap[k]? = w.heap[k]?) (hs : w.heap.size ≤ w'.heap.size) (ht : Tb w') : PH w' X pb b g s lf R fx :=
  ⟨h.ma.keep (hk _ (.inr (.inl rfl))) (hk _ (.inr (.inr rfl))) hs, (hk _ (.inl rfl)).trans h.row, h.x1, h.x2, h.x3, h.d1, h.d2, ht, h.y0, h.y1⟩
theorem PH.on (h : PH w X pb b g s lf R fx) (hb : Below w.heap.size w w') : PH w' X pb b g s lf R fx :=
  h.keep (fun k hk => hb.block k (by rcases hk with rfl | rfl | rfl; exact h.l1; exact h.ma.ltb; exact h.ma.ltg)) hb.size (h.tb.on hb)
theorem PH.drewN (h : PH w X pb b g s lf R fx) (n : Nat) : PH (w.drewN n) X pb b g s lf R fx := h.on (drewN_below _ _ _)
theorem PH.fix (h : PH w X pb b g s lf R fx) (y : Int) : PH (w.setCell ⟨pb, 2, none⟩ (.int .i64 y)) X pb b g s lf R y := by
  have hk : KX X w (w.setCell ⟨pb, 2, none⟩ (.int .i64 y)) := (KX.refl X w).set _ _ h.x1
  have e4 : (w.setCell ⟨pb, 2, none⟩ (.int .i64 y)).heap[b]? = w.heap[b]? := set_blk (Ne.symm h.d1)
  have e5 : (w.setCell ⟨pb, 2, none⟩ (.int .i64 y)).heap[g]? = w.heap[g]? := set_blk (Ne.symm h.d2)
  have hr := heap_set_row (i := 2) (u := .int .i64 y) h.row
  exact ⟨h.ma.keep e4 e5 hk.size, hr, h.x1, h.x2, h.x3, h.d1, h.d2, h.tb.kx hk h.y0 h.y1, h.y0, h.y1⟩
theorem PH.off (h : PH w X pb b g s lf R fx) {p : Addr} (u : Value) (hp : ¬ X p.block) (h0 : p.block ≠ 0) (h1 : p.block ≠ 1) : PH (w.setCell p u) X pb b g s lf R fx := by
  refine h.keep (fun k hk => set_blk (fun e => hp ?_)) (set_size ..) ?_
  · rw [← e]; rcases hk with rfl | rfl | rfl
    · exact h.x1
    · exact h.x2
    · exact h.x3
  · obtain ⟨⟨t, fr, a1⟩, t', fr', a2⟩ := h.tb
    exact ⟨⟨t, fr, (set_blk (Ne.symm h1)).trans a1⟩, t', fr', (set_blk (Ne.symm h0)).trans a2⟩
def HeadR (X : Nat → Prop) (pb b g lf : Nat) (s : St) (PRR : PR) (fx : Int) (f : Nat) (w : World) (e : Ending) (w' : World) : Prop :=
  ∃ fx', e = .returned (.tuple #[.agg #[.int .i64 (if hokB s.ws f = true then (frM s.ws f).pg else 0), .int .i64 (if hokB s.ws f = true then ((frM s.ws f).tn : Int) else 0)], .int .i64 (if hokB s.ws f = true then 0 else 9)]) ∧
    PH w' X pb b g s lf PRR fx' ∧ KX X w w' ∧ ((∀ k, k < 3 → decH (s.ws.getD (f * 19 + k) 0) = 0) → fx' = fx)
theorem hok_bad {ws : List Nat} {f k : Nat} (hk : k < 3) (h : decH (ws.getD (f * 19 + k) 0) = 2) : hokB ws f = false := by
  have h3 : k = 0 ∨ k = 1 ∨ k = 2 := by omega
  rcases h3 with rfl | rfl | rfl
  · have h : decH (ws.getD (f * 19) 0) = 2 := h
    unfold hokB wokB; rw [h]; rfl
  · unfold hokB wokB; rw [h]; simp
  · unfold hokB wokB; rw [h]; simp
theorem hok_good {ws : List Nat} {f : Nat} (h : ∀ k, k < 3 → decH (ws.getD (f * 19 + k) 0) ≠ 2) : hokB ws f = true := by
  have h0 : decH (ws.getD (f * 19) 0) ≠ 2 := h 0 (by omega)
  have h1 := h 1 (by omega)
  have h2 := h 2 (by omega)
  unfold hokB wokB
  simp only [bne_iff_ne, Bool.and_eq_true]
  exact ⟨⟨h0, h1⟩, h2⟩
theorem heap_alloc2_old (w : World) (o p : Obj) : ((w.alloc o).alloc p).heap[w.heap.size]? = (w.alloc o).heap[w.heap.size]? := Below.heap_alloc _ _ _ (by simp)
theorem heap_alloc2_new (w : World) (cs : Array Value) (t : TypeId) (o : Obj) : ((w.alloc o).alloc (.cells cs t)).heap[w.heap.size + 1]? = some (.cells cs t (0, 0)) := by
  have := heap_alloc_new (w.alloc o) (.cells cs t)
  rw [alloc_size] at this
  exact this


theorem KX.setn {x y : World} (h : KX X x y) (p : Addr) (u : Value) (hp : x.heap.size ≤ p.block) : KX X x (y.setCell p u) :=
  ⟨h.os, h.tape, h.output, Nat.le_trans h.size (set_size ..), fun k hk hx => (set_blk (by omega)).trans (h.block k hk hx)⟩
theorem headR_bad {PRR : PR} {f : Nat} {w' : World} {y : Int} (hb : hokB s.ws f = false) (hp : PH w' X pb b g s lf PRR y) (hk : KX X w w') (h2 : ¬ ∀ k, k < 3 → decH (s.ws.getD (f * 19 + k) 0) = 0) :
    HeadR X pb b g lf s PRR fx f w (.returned (.tuple #[.agg #[.int .i64 0, .int .i64 0], .int .i64 9])) w' := by
  refine ⟨y, ?_, hp, hk, fun h => absurd h h2⟩
  rw [hb]; rfl
theorem headR_good {PRR : PR} {f : Nat} {w' : World} {y : Int} {p t : Int} (hb : hokB s.ws f = true) (hp : PH w' X pb b g s lf PRR y) (hk : KX X w w') (h2 : (∀ k, k < 3 → decH (s.ws.getD (f * 19 + k) 0) = 0) → y = fx) (e1 : p = (frM s.ws f).pg) (e2 : t = ((frM s.ws f).tn : Int)) :
    HeadR X pb b g lf s PRR fx f w (.returned (.tuple #[.agg #[.int .i64 p, .int .i64 t], .int .i64 0])) w' := by
  refine ⟨y, ?_, hp, hk, h2⟩
  rw [hb, e1, e2]; rfl
theorem good_up {P : Nat → Prop} {k : Nat} (h : ∀ j, j < k → P j) (hk : P k) : ∀ j, j < k + 1 → P j := by
  intro j hj
  by_cases e : j = k
  · subst e; exact hk
  · exact h j (by omega)

set_option maxRecDepth 100000 in
set_option maxHeartbeats 1600000 in
theorem phead_any {PRR : PR} (h : PH w X pb b g s lf PRR fx) (hX : ∀ k, X k → k < w.heap.size) (hF : ∀ a, s.ws.getD a 0 < 4294967296) (hon : s.on = true) (f : Nat) (hf : f * 19 + 19 ≤ s.ws.length) :
    Calls Tryd.prog 75 #[.pointer (some ⟨pb, 0, none⟩), .int .i64 (f : Int)] w (HeadR X pb b g lf s PRR fx f w) := by
  have hlen := h.ma.n2
  have HF := Lib.hid hF
  have HXX := Lib.hid hX
  have HON := Lib.hid hon
  have HPM0 := Lib.hid h
  have h2size := h.tb.size
  clear h hF hX hon
  go_enter Tryd.func75, Tryd.ntmps75
  go_wp2_with fail
  obtain ⟨W0, hW0⟩ : ∃ W0, ((w.alloc (.cells #[.int .i64 0, .int .i64 0] 123)).alloc (.cells #[.int .i64 0, .int .i64 0, .int .i64 0] 144)) = W0 := ⟨_, rfl⟩
  have hb0 : Below w.heap.size w W0 := by rw [← hW0]; exact ((alloc_below _ _).alloc (by simp) _)
  have hR0 : W0.heap[w.heap.size]? = some (.cells #[.int .i64 0, .int .i64 0] 123 (0, 0)) := by rw [← hW0, heap_alloc2_old]; exact heap_alloc_new _ _
  have hD0 : W0.heap[w.heap.size + 1]? = some (.cells #[.int .i64 0, .int .i64 0, .int .i64 0] 144 (0, 0)) := by rw [← hW0]; exact heap_alloc2_new _ _ _ _
  rw [hW0]
  clear hW0
  have HB0 := Lib.hid (KX.of_below (X := X) hb0)
  have HPM1 := Lib.hid (HPM0.out.on hb0)
  have HR0 := Lib.hid hR0
  have HD0 := Lib.hid hD0
  clear hb0 hR0 hD0
  obtain ⟨R, hR⟩ : ∃ R, w.heap.size = R := ⟨_, rfl⟩
  have HRE := Lib.hid hR
  rw [hR] at HR0 HD0 h2size
  rw [hR]
  clear hR
  go_loopw [12] (fun i wr => ∃ (k : Nat) (y : Int), k ≤ 3 ∧ i = .int .i64 (k : Int) ∧ PH wr X pb b g s lf PRR y ∧ KX X w wr ∧ wr.heap[R]? = some (.cells #[.int .i64 0, .int .i64 0] 123 (0, 0)) ∧ wr.heap[R + 1]? = some (.cells (hdX s.ws f k) 144 (0, 0)) ∧ (∀ j, j < k → decH (s.ws.getD (f * 19 + j) 0) ≠ 2) ∧ ((∀ j, j < k → decH (s.ws.getD (f * 19 + j) 0) = 0) → y = fx)) (fun i _ => 3 - (intOf i).toNat)
  case atStart => exact ⟨0, fx, by omega, rfl, HPM1.out, HB0.out, HR0.out, HD0.out, fun j hj => absurd hj (by omega), fun _ => rfl⟩
  case round =>
    obtain ⟨k, y, hk, rfl, hpm, hkx, hr, hd, hgood, hex⟩ := hrel
    by_cases h3 : k < 3
    · have HRD := Lib.hid (fun z a hz ha => read_in hpm.ma HON.out z a hz ha)
      have HDC := Lib.hid (pdec_any (s.ws.getD (f * 19 + k) 0) wr (HF.out _) hpm.tb)
      have c0 := cell_of_row _ _ 0 _ _ _ hpm.row
      have c2 := cell_of_row _ _ 2 _ _ _ hpm.row
      have z2 := frozen_of_row _ _ 2 _ _ hpm.row
      unfold hrow at c0 c2
      unfold PdecR at HDC
      have hdl := decD_lt (s.ws.getD (f * 19 + k) 0)
      have hdi : wr.cell? ⟨R + 1, k, none⟩ = some (.int .i64 0) := by rw [cell_of_row _ _ k _ _ _ hd, hdX_at _ _ _ h3]
      have hdz := frozen_of_row _ _ k _ _ hd
      have hki : (k : Int) < 3 := by omega
      have r0 := cell_of_row _ _ 0 _ _ _ hr
      have r1 := cell_of_row _ _ 1 _ _ _ hr
      have z0 := frozen_of_row _ _ 0 _ _ hr
      have z1 := frozen_of_row _ _ 1 _ _ hr
      have HPM := Lib.hid hpm
      have HKX := Lib.hid hkx
      have HR := Lib.hid hr
      have HD := Lib.hid hd
      have HG := Lib.hid hgood
      have HE := Lib.hid hex
      have HS := Lib.hid (hdX_set s.ws f k h3)
      have HN := Lib.hid (fun h => hok_bad (ws := s.ws) (f := f) h3 h)
      have HXR : ¬ X (R + 1) := fun e => by have := HXX.out _ e; have := HRE.out; omega
      have hRlt : R < wr.heap.size := (Array.getElem?_eq_some_iff.1 hr).1
      have hc := decH_cases (s.ws.getD (f * 19 + k) 0)
      clear hpm hkx hr hd hgood hex
      obtain ⟨dd, hdd⟩ : ∃ dd, decD (s.ws.getD (f * 19 + k) 0) = dd := ⟨_, rfl⟩
      obtain ⟨hh, hhh⟩ : ∃ hh, decH (s.ws.getD (f * 19 + k) 0) = hh := ⟨_, rfl⟩
      obtain ⟨x, hx⟩ : ∃ x, s.ws.getD (f * 19 + k) 0 = x := ⟨_, rfl⟩
      rw [hdd] at hdl HS HDC
      rw [hhh] at HDC hc HN
      have HRD := Lib.hid (fun z hz => HRD.out z (f * 19 + k) hz (by omega))
      rw [hx] at HRD HDC
      have HX := Lib.hid hx
      have HDD := Lib.hid hdd
      have HHH := Lib.hid hhh
      clear hx hdd hhh
      have hpr : pb ≠ R + 1 := fun e => HXR (e ▸ HPM.out.x1)
      have hpr2 : ¬ R + 1 = pb := fun e => hpr e.symm
      have HSZ := Lib.hid HRE.out
      rcases hc with rfl | rfl | rfl
      · go_wp2_with (first
          | (go_at_call 82; refine (HRD.out _ (by omega)).mono ?_; rintro e _ ⟨rfl, rfl⟩)
          | (go_at_call 89; refine HDC.out.mono ?_; rintro e _ ⟨rfl, n, rfl⟩))
        go_roundw
        case rel =>
          refine ⟨k + 1, y, by omega, by go_num, (HPM.out.drewN n).off _ HXR (by show R + 1 ≠ 0; omega) (by show R + 1 ≠ 1; omega), (HKX.out.trans (KX.drewN _ n)).setn _ _ (by have := HSZ.out; show _ ≤ R + 1; omega), ?_, ?_, good_up HG.out (by rw [HHH.out]; omega), fun h => HE.out fun j hj => h j (by omega)⟩
          · rw [set_blk (by simp)]; exact HR.out
          · exact (heap_set_row (w := World.drewN _ _) HD.out).trans (by rw [HS.out])
        case measure => simp [intOf]; omega
      · go_wp2_with (first
          | (go_at_call 82; refine (HRD.out _ (by omega)).mono ?_; rintro e _ ⟨rfl, rfl⟩)
          | (go_at_call 89; refine HDC.out.mono ?_; rintro e _ ⟨rfl, n, rfl⟩))
        go_roundw
        case rel =>
          refine ⟨k + 1, _, by omega, by go_num, ((HPM.out.drewN n).fix _).off _ HXR (by show R + 1 ≠ 0; omega) (by show R + 1 ≠ 1; omega), ((HKX.out.trans (KX.drewN _ n)).set _ _ HPM.out.x1).setn _ _ (by have := HSZ.out; show _ ≤ R + 1; omega), ?_, ?_, good_up HG.out (by rw [HHH.out]; omega), fun h => absurd (h k (by omega)) (by rw [HHH.out]; omega)⟩
          · rw [set_blk (by simp), set_blk (by have := HPM.out.x1; intro e; have e : R = pb := e; have := HXX.out _ this; have := HSZ.out; omega)]; exact HR.out
          · exact (heap_set_row ((set_blk (w := World.drewN _ _) (fun e => hpr2 e)).trans HD.out)).trans (by rw [HS.out])
        case measure => simp [intOf]; omega
      · go_wp2_with (first
          | (go_at_call 82; refine (HRD.out _ (by omega)).mono ?_; rintro e _ ⟨rfl, rfl⟩)
          | (go_at_call 89; refine HDC.out.mono ?_; rintro e _ ⟨rfl, n, rfl⟩))
        have HXR2 : ¬ X R := fun e => by have := HXX.out _ e; have := HSZ.out; omega
        have k1 := heap_set_row (i := 0) (u := .int .i64 0) (show (World.drewN _ n).heap[R]? = _ from HR.out)
        have k2 := heap_set_row (i := 1) (u := .int .i64 0) k1
        refine bodyPost_ret (results_cell2 rfl _ _ R 123 #[.int .i64 0, .int .i64 0] (0, 0) _ rfl k2 Tryd.underlying123 rfl info123) rfl ?_
        exact headR_bad (HN.out (by first | exact trivial | rfl)) (((HPM.out.drewN n).off _ HXR2 (by show R ≠ 0; omega) (by show R ≠ 1; omega)).off _ HXR2 (by show R ≠ 0; omega) (by show R ≠ 1; omega)) (((HKX.out.trans (KX.drewN _ n)).setn _ _ (by have := HSZ.out; show _ ≤ R; omega)).setn _ _ (by have := HSZ.out; show _ ≤ R; omega)) (fun h => absurd (h k h3) (by rw [HHH.out]; omega))
    · obtain rfl : k = 3 := by omega
      have c0 := cell_of_row _ _ 0 _ _ _ hd
      have c1 := cell_of_row _ _ 1 _ _ _ hd
      have c2 := cell_of_row _ _ 2 _ _ _ hd
      have HF1 : Hid ((frM s.ws f).pg = (decD (s.ws.getD (f * 19) 0) : Int) - 1) := rfl
      have HF2 : Hid (((frM s.ws f).tn : Int) = (decD (s.ws.getD (f * 19 + 1) 0) : Int) * 16777216 + (decD (s.ws.getD (f * 19 + 2) 0) : Int)) := by show ((decD (s.ws.getD (f * 19 + 1) 0) * 16777216 + decD (s.ws.getD (f * 19 + 2) 0) : Nat) : Int) = _; omega
      have b0 := decD_lt (s.ws.getD (f * 19) 0)
      have b1 := decD_lt (s.ws.getD (f * 19 + 1) 0)
      have b2 := decD_lt (s.ws.getD (f * 19 + 2) 0)
      change wr.cell? ⟨R + 1, 0, none⟩ = some (.int .i64 (decD (s.ws.getD (f * 19) 0) : Int)) at c0
      change wr.cell? ⟨R + 1, 1, none⟩ = some (.int .i64 (decD (s.ws.getD (f * 19 + 1) 0) : Int)) at c1
      change wr.cell? ⟨R + 1, 2, none⟩ = some (.int .i64 (decD (s.ws.getD (f * 19 + 2) 0) : Int)) at c2
      have HOK := Lib.hid (hok_good hgood)
      have HEX := Lib.hid hex
      have HPM := Lib.hid hpm
      have HKX := Lib.hid hkx
      have HR := Lib.hid hr
      have r0 := cell_of_row _ _ 0 _ _ _ hr
      have r1 := cell_of_row _ _ 1 _ _ _ hr
      have z0 := frozen_of_row _ _ 0 _ _ hr
      have z1 := frozen_of_row _ _ 1 _ _ hr
      have HXR2 : ¬ X R := fun e => by have := HXX.out _ e; have := HRE.out; omega
      clear hgood hex hpm hkx hr hd
      generalize decD (s.ws.getD (f * 19) 0) = y0 at *
      generalize decD (s.ws.getD (f * 19 + 1) 0) = y1 at *
      generalize decD (s.ws.getD (f * 19 + 2) 0) = y2 at *
      go_wp2
      have k1 := heap_set_row (i := 0) (u := .int .i64 ((y0 : Int) - 1)) HR.out
      have k2 := heap_set_row (i := 1) (u := .int .i64 ((y1 : Int) * 16777216 + (y2 : Int))) k1
      refine bodyPost_ret (results_cell2 rfl _ _ R 123 #[.int .i64 ((y0 : Int) - 1), .int .i64 ((y1 : Int) * 16777216 + (y2 : Int))] (0, 0) _ rfl k2 Tryd.underlying123 rfl info123) rfl ?_
      exact headR_good HOK.out ((HPM.out.off _ HXR2 (by show R ≠ 0; omega) (by show R ≠ 1; omega)).off _ HXR2 (by show R ≠ 0; omega) (by show R ≠ 1; omega)) ((HKX.out.setn _ _ (by have := HRE.out; show _ ≤ R; omega)).setn _ _ (by have := HRE.out; show _ ≤ R; omega)) HEX.out HF1.out.symm HF2.out.symm
end
end
end Go.Proofs.YtiholfpcndjliaaDoor
