/-
  The walk of load.
-/
import Derived.Test.YtiholfpcndjliaaDoorPgh
namespace Go.Proofs.YtiholfpcndjliaaDoor
set_option linter.unusedVariables false
set_option linter.unusedSimpArgs false
open Go.RowKit

theorem info123b : (Tryd.prog.info? 123).map (fun i => (i.zero, i.size, i.bytes)) = some (some (.agg #[.int .i64 0, .int .i64 0]), 2, 16) := by kernel_rfl
theorem info3b : (Tryd.prog.info? 3).map (fun i => (i.zero, i.size, i.bytes)) = some (some (.int .i64 0), 1, 8) := by kernel_rfl
def zF (n : Nat) : Array Value := madeCells #[.int .i64 0, .int .i64 0] (n * 2)
def zP (n : Nat) : Array Value := madeCells #[.int .i64 0] (n * 1)
theorem mk_frames (W : World) (n : Nat) (hn : n ≤ 65536) : (Instr.makeSlice 101 (.int .i64 (n : Int)) (.int .i64 (n : Int))).run Tryd.prog W = .ok (.slice (some ⟨W.heap.size, 0, none⟩) n n) (W.alloc (.cells (zF n) 123)) := by
  obtain ⟨i0, hi0, hz0, hz1, hz2⟩ := info_parts info123b
  have := run_make (P := Tryd.prog) W 101 123 i0 _ Tryd.underlying101 hi0 hz0 .i64 .i64 (n : Int) (n : Int) (by omega) (Int.le_refl _) (by rw [hz2]; omega) (by omega)
  rw [hz1, Int.toNat_natCast] at this
  exact this
theorem mk_homes (W : World) (n : Nat) (hn : n ≤ 65536) : (Instr.makeSlice 51 (.int .i64 (n : Int)) (.int .i64 (n : Int))).run Tryd.prog W = .ok (.slice (some ⟨W.heap.size, 0, none⟩) n n) (W.alloc (.cells (zP n) 3)) := by
  obtain ⟨i0, hi0, hz0, hz1, hz2⟩ := info_parts info3b
  have := run_make (P := Tryd.prog) W 51 3 i0 _ Tryd.underlying51 hi0 hz0 .i64 .i64 (n : Int) (n : Int) (by omega) (Int.le_refl _) (by rw [hz2]; omega) (by omega)
  rw [hz1, Int.toNat_natCast] at this
  exact this

/-- Frames in block gf. -/
structure GF (w : World) (gf F : Nat) (fm : Nat → Fr) : Prop where
  pg : ∀ f, f < F → w.cell? ⟨gf, f * 2, none⟩ = some (.int .i64 (fm f).pg)
  tn : ∀ f, f < F → w.cell? ⟨gf, f * 2 + 1, none⟩ = some (.int .i64 ((fm f).tn : Int))
  fz : ∀ j, w.frozen? ⟨gf, j, none⟩ = false
  lt : gf < w.heap.size
/-- Homes in block gh. -/
structure GH (w : World) (gh P : Nat) (hm : Nat → Int) : Prop where
  ho : ∀ j, j < P → w.cell? ⟨gh, j, none⟩ = some (.int .i64 (hm j))
  fz : ∀ j, w.frozen? ⟨gh, j, none⟩ = false
  lt : gh < w.heap.size
section
variable {w w' : World} {gf gh F P : Nat} {fm : Nat → Fr} {hm : Nat → Int}
theorem GF.keep (h : GF w gf F fm) (hk : w'.heap[gf]? = w.heap[gf]?) (hs : w.heap.size ≤ w'.heap.size) : GF w' gf F fm :=
  ⟨fun f hf => (World.cell?_of_block (w := w) hk).trans (h.pg f hf), fun f hf => (World.cell?_of_block (w := w) hk).trans (h.tn f hf), fun j => (World.frozen?_of_block (w := w) hk).trans (h.fz j), Nat.lt_of_lt_of_le h.lt hs⟩
theorem GH.keep (h : GH w gh P hm) (hk : w'.heap[gh]? = w.heap[gh]?) (hs : w.heap.size ≤ w'.heap.size) : GH w' gh P hm :=
  ⟨fun f hf => (World.cell?_of_block (w := w) hk).trans (h.ho f hf), fun j => (World.frozen?_of_block (w := w) hk).trans (h.fz j), Nat.lt_of_lt_of_le h.lt hs⟩
theorem GF.kx {X : Nat → Prop} (h : GF w gf F fm) (hk : KX X w w') (hx : ¬ X gf) : GF w' gf F fm := h.keep (hk.block _ h.lt hx) hk.size
theorem GH.kx {X : Nat → Prop} (h : GH w gh P hm) (hk : KX X w w') (hx : ¬ X gh) : GH w' gh P hm := h.keep (hk.block _ h.lt hx) hk.size
theorem GF.new (w : World) (n : Nat) : GF (w.alloc (.cells (zF n) 123)) w.heap.size n (fun _ => ⟨0, 0⟩) := by
  have hr := heap_alloc_new w (.cells (zF n) 123)
  refine ⟨fun f hf => ?_, fun f hf => ?_, fun j => frozen_of_row _ _ j _ _ hr, by simp⟩
  · rw [cell_of_row _ _ (f * 2) _ _ _ hr]
    simp [zF, madeCells, show f * 2 < n * 2 by omega]
  · rw [cell_of_row _ _ (f * 2 + 1) _ _ _ hr]
    simp [zF, madeCells, show f * 2 + 1 < n * 2 by omega, show (f * 2 + 1) % 2 = 1 by omega]
theorem GH.new (w : World) (n : Nat) : GH (w.alloc (.cells (zP n) 3)) w.heap.size n (fun _ => 0) := by
  have hr := heap_alloc_new w (.cells (zP n) 3)
  refine ⟨fun f hf => ?_, fun j => frozen_of_row _ _ j _ _ hr, by simp⟩
  rw [cell_of_row _ _ f _ _ _ hr]
  simp [zP, madeCells, hf, Nat.mod_one]
theorem GF.set (h : GF w gf F fm) (k : Nat) (hk : k < F) (p : Int) (t : Nat) (z : Int) (hz : z = (t : Int)) : GF ((w.setCell ⟨gf, k * 2, none⟩ (.int .i64 p)).setCell ⟨gf, k * 2 + 1, none⟩ (.int .i64 z)) gf F (fun j => if j = k then ⟨p, t⟩ else fm j) := by
  subst hz
  refine ⟨fun j hj => ?_, fun j hj => ?_, fun j => ?_, Nat.lt_of_lt_of_le h.lt (Nat.le_trans (set_size ..) (set_size ..))⟩
  · by_cases e : j = k
    · subst e
      rw [World.cell?_setCell_other _ _ _ _ (by simp)]
      simp only [if_true]
      exact World.cell?_setCell_same _ _ _ (h.pg j hj)
    · rw [World.cell?_setCell_other _ _ _ _ (by simp <;> omega), World.cell?_setCell_other _ _ _ _ (by simp <;> omega), h.pg j hj]
      simp [e]
  · by_cases e : j = k
    · subst e
      simp only [if_true]
      exact World.cell?_setCell_same _ _ _ ((World.cell?_setCell_other _ _ _ _ (by simp)).trans (h.tn j hj))
    · rw [World.cell?_setCell_other _ _ _ _ (by simp <;> omega), World.cell?_setCell_other _ _ _ _ (by simp <;> omega), h.tn j hj]
      simp [e]
  · rw [World.frozen?_setCell, World.frozen?_setCell]; exact h.fz j
theorem GH.set (h : GH w gh P hm) (k : Nat) (hk : k < P) (p : Int) : GH (w.setCell ⟨gh, k, none⟩ (.int .i64 p)) gh P (fun j => if j = k then p else hm j) := by
  refine ⟨fun j hj => ?_, fun j => ?_, Nat.lt_of_lt_of_le h.lt (set_size ..)⟩
  · by_cases e : j = k
    · subst e
      simp only [if_true]
      exact World.cell?_setCell_same _ _ _ (h.ho j hj)
    · rw [World.cell?_setCell_other _ _ _ _ (by simp <;> omega), h.ho j hj]
      simp [e]
  · rw [World.frozen?_setCell]; exact h.fz j
theorem GF.congr {fm' : Nat → Fr} (h : GF w gf F fm) (e : ∀ f, f < F → fm' f = fm f) : GF w gf F fm' := ⟨fun f hf => by rw [e f hf]; exact h.pg f hf, fun f hf => by rw [e f hf]; exact h.tn f hf, h.fz, h.lt⟩
theorem GH.congr {hm' : Nat → Int} (h : GH w gh P hm) (e : ∀ f, f < P → hm' f = hm f) : GH w gh P hm' := ⟨fun f hf => by rw [e f hf]; exact h.ho f hf, h.fz, h.lt⟩
end

/-- Whether the memory is one of pages. -/
def ldB (ws : List Nat) : Bool := (List.range (ws.length / 19)).all fun f => hokB ws f && decide ((frM ws f).pg < ((ws.length / 24 : Nat) : Int))
theorem ldB_at {ws : List Nat} (h : ldB ws = true) (f : Nat) (hf : f < ws.length / 19) : hokB ws f = true ∧ (frM ws f).pg < ((ws.length / 24 : Nat) : Int) := by
  have := List.all_eq_true.1 h f (List.mem_range.2 hf)
  simpa using this
theorem ldB_no {ws : List Nat} (f : Nat) (hf : f < ws.length / 19) (h : ¬ (hokB ws f = true ∧ (frM ws f).pg < ((ws.length / 24 : Nat) : Int))) : ldB ws = false := by
  cases e : ldB ws
  · rfl
  · exact absurd (ldB_at e f hf) h
theorem ldB_all {ws : List Nat} (h : ∀ f, f < ws.length / 19 → hokB ws f = true ∧ (frM ws f).pg < ((ws.length / 24 : Nat) : Int)) : ldB ws = true :=
  List.all_eq_true.2 fun f hf => by have := h f (List.mem_range.1 hf); simpa using this
/-- What pages know of a memory. -/
def ldD (ws : List Nat) (cu wr : Nat) : PD := ⟨ws.length / 19, ws.length / 24, frM ws, fun j => homeR (frM ws) j (ws.length / 19), turnR (frM ws) (ws.length / 19), cu, wr⟩
/-- The words of all heads are right. -/
def exH (ws : List Nat) : Prop := ∀ f k, f < ws.length / 19 → k < 3 → decH (ws.getD (f * 19 + k) 0) = 0
section
variable {w w' : World} {X : Nat → Prop} {pb b g lf : Nat} {s : St} {R : PR} {fx : Int}
theorem PH.row4 (h : PH w X pb b g s lf R fx) (v3 v4 v5 v6 : Value) : PH ((((w.setCell ⟨pb, 3, none⟩ v3).setCell ⟨pb, 4, none⟩ v4).setCell ⟨pb, 5, none⟩ v5).setCell ⟨pb, 6, none⟩ v6) X pb b g s lf ⟨R.cu, v3, v4, v5, v6⟩ fx ∧
    KX X w ((((w.setCell ⟨pb, 3, none⟩ v3).setCell ⟨pb, 4, none⟩ v4).setCell ⟨pb, 5, none⟩ v5).setCell ⟨pb, 6, none⟩ v6) ∧ ∀ k, k ≠ pb → ((((w.setCell ⟨pb, 3, none⟩ v3).setCell ⟨pb, 4, none⟩ v4).setCell ⟨pb, 5, none⟩ v5).setCell ⟨pb, 6, none⟩ v6).heap[k]? = w.heap[k]? := by
  have hk : KX X w ((((w.setCell ⟨pb, 3, none⟩ v3).setCell ⟨pb, 4, none⟩ v4).setCell ⟨pb, 5, none⟩ v5).setCell ⟨pb, 6, none⟩ v6) := ((((KX.refl X w).set _ _ h.x1).set _ _ h.x1).set _ _ h.x1).set _ _ h.x1
  have e : ∀ k, k ≠ pb → ((((w.setCell ⟨pb, 3, none⟩ v3).setCell ⟨pb, 4, none⟩ v4).setCell ⟨pb, 5, none⟩ v5).setCell ⟨pb, 6, none⟩ v6).heap[k]? = w.heap[k]? := fun k h1 => by rw [set_blk h1, set_blk h1, set_blk h1, set_blk h1]
  have r1 := heap_set_row (i := 3) (u := v3) h.row
  have r2 := heap_set_row (i := 4) (u := v4) r1
  have r3 := heap_set_row (i := 5) (u := v5) r2
  have r4 := heap_set_row (i := 6) (u := v6) r3
  exact ⟨⟨h.ma.keep (e _ (Ne.symm h.d1)) (e _ (Ne.symm h.d2)) hk.size, r4, h.x1, h.x2, h.x3, h.d1, h.d2, h.tb.kx hk h.y0 h.y1, h.y0, h.y1⟩, hk, e⟩
def fmF (ws : List Nat) (k f : Nat) : Fr := if f < k then frM ws f else ⟨0, 0⟩
theorem homeR_at (fm : Nat → Fr) (j : Int) (k : Nat) : homeR fm j (k + 1) = if (fm k).pg = j ∧ (homeR fm j k = -1 ∨ (fm (homeR fm j k).toNat).tn < (fm k).tn) then (k : Int) else homeR fm j k := rfl
theorem homes_no {fm : Nat → Fr} {k : Nat} {P : Nat} (h : ∀ j : Nat, j < P → ¬ ((fm k).pg = (j : Int) ∧ (homeR fm j k = -1 ∨ (fm (homeR fm j k).toNat).tn < (fm k).tn))) : ∀ j : Nat, j < P → homeR fm (j : Int) (k + 1) = homeR fm (j : Int) k := by
  intro j hj
  rw [homeR_at, if_neg (h j hj)]
theorem homes_yes {fm : Nat → Fr} {k P i : Nat} (hp : (fm k).pg = (i : Int)) (h : homeR fm i k = -1 ∨ (fm (homeR fm i k).toNat).tn < (fm k).tn) : ∀ j : Nat, j < P → homeR fm (j : Int) (k + 1) = (fun j => if j = i then (k : Int) else homeR fm (j : Int) k) j := by
  intro j hj
  rw [homeR_at]
  by_cases e : j = i
  · subst e; rw [if_pos ⟨hp, h⟩]; simp
  · rw [if_neg (by rw [hp]; omega)]; simp [e]
theorem fmF_up {ws : List Nat} {k : Nat} {p : Int} {t : Nat} (h : frM ws k = ⟨p, t⟩) : ∀ f, fmF ws (k + 1) f = (fun j => if j = k then (⟨p, t⟩ : Fr) else fmF ws k j) f := by
  intro f
  unfold fmF
  by_cases e : f = k
  · subst e; rw [if_pos (by omega)]; simp [h]
  · simp only [if_neg e]
    by_cases e2 : f < k
    · rw [if_pos e2, if_pos (by omega)]
    · rw [if_neg e2, if_neg (by omega)]
theorem tn_lt {ws : List Nat} {k m : Nat} {t : Nat} (hm : m < k) (h : (fmF ws (k + 1) m).tn = t) : (frM ws m).tn = t := by
  unfold fmF at h; rw [if_pos (by omega)] at h; exact h
theorem frM_tn (ws : List Nat) (f : Nat) : (frM ws f).tn < 281474976710656 := by
  have h1 := decD_lt (ws.getD (f * 19 + 1) 0)
  have h2 := decD_lt (ws.getD (f * 19 + 2) 0)
  unfold frM
  simp only
  omega
theorem frM_pg (ws : List Nat) (f : Nat) : -1 ≤ (frM ws f).pg ∧ (frM ws f).pg < 16777216 := by
  have h1 := decD_lt (ws.getD (f * 19) 0)
  unfold frM
  simp only
  omega
/-- What load returns. -/
def LoadR (X : Nat → Prop) (pb b g lf : Nat) (s : St) (R : PR) (fx : Int) (w : World) (e : Ending) (w' : World) : Prop :=
  ∃ fx', e = .returned (.int .i64 (if ldB s.ws = true then 0 else 9)) ∧ (exH s.ws → fx' = fx) ∧ KX X w w' ∧ (∃ R', PH w' X pb b g s lf R' fx') ∧
    (ldB s.ws = true → ∃ gf gh, w.heap.size ≤ gf ∧ w.heap.size ≤ gh ∧ gf ≠ gh ∧ GF w' gf (s.ws.length / 19) (frM s.ws) ∧ GH w' gh (s.ws.length / 24) (fun j => homeR (frM s.ws) j (s.ws.length / 19)) ∧
      PH w' X pb b g s lf ⟨R.cu, .slice (some ⟨gf, 0, none⟩) (s.ws.length / 19) (s.ws.length / 19), .slice (some ⟨gh, 0, none⟩) (s.ws.length / 24) (s.ws.length / 24), .int .i64 (turnR (frM s.ws) (s.ws.length / 19) : Int), .int .i64 (s.wr : Int)⟩ fx')
set_option maxRecDepth 100000 in
set_option maxHeartbeats 3200000 in
theorem load_any (h : PH w X pb b g s lf R fx) (hX : ∀ k, X k → k < w.heap.size) (hF : ∀ a, s.ws.getD a 0 < 4294967296) (hon : s.on = true) :
    Calls Tryd.prog 53 #[.pointer (some ⟨pb, 0, none⟩)] w (LoadR X pb b g lf s R fx w) := by
  have hlen := h.ma.n2
  obtain ⟨F, hFe⟩ : ∃ F, s.ws.length / 19 = F := ⟨_, rfl⟩
  obtain ⟨P, hPe⟩ : ∃ P, s.ws.length / 24 = P := ⟨_, rfl⟩
  obtain ⟨n, hne⟩ : ∃ n, s.ws.length = n := ⟨_, rfl⟩
  have e19 : (n : Int) / 19 = (F : Int) := by omega
  have e24 : (n : Int) / 24 = (P : Int) := by omega
  have hmF := fun W => mk_frames W F (by omega)
  have hmP := fun W => mk_homes W P (by omega)
  have HWD := fun (W : World) (hW : Below w.heap.size w W) => words_any (h.on hW).ma
  rw [hne] at HWD
  have HWD := Lib.hid HWD
  have hF1 : F ≤ 5000 := by omega
  have hP1 : P ≤ 5000 := by omega
  have HN := Lib.hid hne
  have HFE := Lib.hid hFe
  have HPE := Lib.hid hPe
  have HF := Lib.hid hF
  have HXX := Lib.hid hX
  have HON := Lib.hid hon
  have HPM0 := Lib.hid h
  have c0 := cell_of_row _ _ 0 _ _ _ h.row
  unfold hrow at c0
  have hpl := h.l1
  rw [hne] at hlen
  have HZF := Lib.hid (fun w => GF.new w F)
  have HZP := Lib.hid (fun w => GH.new w P)
  clear h hX hF hon hne hFe hPe
  generalize zF F = zf at *
  generalize zP P = zp at *
  go_enter Tryd.func53, Tryd.ntmps53
  go_wp2_with (first
    | (go_at_call 51; (with_reducible refine (HWD.out _ (Below.refl _ _)).mono ?_); rintro e W1 ⟨rfl, hW1⟩; rw [hW1]; clear hW1 W1)
    | (go_at_call 51; (with_reducible refine (HWD.out _ (alloc_below _ _)).mono ?_); rintro e W1 ⟨rfl, hW1⟩; rw [hW1]; clear hW1 W1))
  clear e19 e24 hmF hmP
  obtain ⟨B, hB⟩ : ∃ B, w.heap.size = B := ⟨_, rfl⟩
  obtain ⟨W0, hW0⟩ : ∃ W0, ((w.alloc (.cells zf 123)).alloc (.cells zp 3)) = W0 := ⟨_, rfl⟩
  have hb0 : Below w.heap.size w W0 := by rw [← hW0]; exact (alloc_below _ _).alloc (by simp) _
  have hgf : GF W0 B F (fun _ => ⟨0, 0⟩) := by rw [← hW0, ← hB]; exact (HZF.out w).keep (heap_alloc2_old ..|>.trans rfl) (by simp)
  have hgh : GH W0 (B + 1) P (fun _ => 0) := by rw [← hW0, ← hB]; have := HZP.out (w.alloc (.cells zf 123)); rw [alloc_size] at this; exact this
  have hXB : ∀ k, X k → k < B := fun k hk => by have := HXX.out k hk; omega
  have HPH := Lib.hid (HPM0.out.on hb0)
  have HKX := Lib.hid (KX.of_below (X := X) hb0)
  have HBE := Lib.hid hB
  have HXB := Lib.hid hXB
  have HGF := Lib.hid hgf
  have HGH := Lib.hid hgh
  have h2B : 1 < B := by have := HPM0.out.tb.size; omega
  try rw [hB]
  rw [hW0]
  clear hW0 hb0 hgf hgh hXB hB HZF HZP HWD hpl c0
  go_loopw [26] (fun i wr => ∃ k : Nat, k ≤ P ∧ i = .int .i64 (k : Int) ∧ PH wr X pb b g s lf R fx ∧ KX X w wr ∧ GF wr B F (fun _ => ⟨0, 0⟩) ∧ GH wr (B + 1) P (fun j => if j < k then -1 else 0)) (fun i _ => P - (intOf i).toNat)
  case atStart => exact ⟨0, Nat.zero_le _, rfl, HPH.out, HKX.out, HGF.out, HGH.out.congr (fun f _ => by simp)⟩
  case round =>
    obtain ⟨k, hk, rfl, hph, hkx, hgf, hgh⟩ := hrel
    by_cases h3 : k < P
    · have x1 := hgh.ho k h3
      have z1 := hgh.fz k
      have hki : (k : Int) < (P : Int) := by omega
      have HPH := Lib.hid hph
      have HKX := Lib.hid hkx
      have HGF := Lib.hid hgf
      have HGH := Lib.hid hgh
      clear hph hkx hgf hgh
      rw [if_neg (by omega)] at x1
      go_wp2
      go_roundw
      case rel =>
        refine ⟨k + 1, by omega, by go_num, HPH.out.off _ (fun e => by have := HXB.out (B + 1) e; omega) (by show B + 1 ≠ 0; omega) (by show B + 1 ≠ 1; omega), HKX.out.setn _ _ (by have := HBE.out; show _ ≤ B + 1; omega), HGF.out.keep (set_blk (by show B ≠ B + 1; omega)) (set_size ..), (HGH.out.set k h3 (-1)).congr (fun j _ => ?_)⟩
        by_cases e : j = k
        · subst e; simp
        · simp only [if_neg e]
          by_cases e2 : j < k
          · rw [if_pos e2, if_pos (by omega)]
          · rw [if_neg e2, if_neg (by omega)]
      case measure => simp [intOf]; omega
    · obtain rfl : P = k := by omega
      have hgh := hgh.congr (hm' := fun _ => -1) (fun f hf => by simp [hf])
      have HPH := Lib.hid hph
      have HKX := Lib.hid hkx
      have HGF := Lib.hid hgf
      have HGH := Lib.hid hgh
      clear hph hkx hgf hgh
      go_wp2
      go_loopw [6, 35] (fun tu i wr => ∃ (k : Nat) (y : Int), k ≤ F ∧ i = .int .i64 (k : Int) ∧ tu = .int .i64 ((turnR (frM s.ws) k : Nat) : Int) ∧ PH wr X pb b g s lf R y ∧ KX X w wr ∧ GF wr B F (fmF s.ws k) ∧ GH wr (B + 1) P (fun j => homeR (frM s.ws) (j : Int) k) ∧
        (∀ f, f < k → hokB s.ws f = true ∧ (frM s.ws f).pg < (P : Int)) ∧ (exH s.ws → y = fx)) (fun _ i _ => F - (intOf i).toNat)
      case atStart => exact ⟨0, fx, Nat.zero_le _, rfl, rfl, HPH.out, HKX.out, HGF.out.congr (fun f _ => by simp [fmF]), HGH.out, fun f hf => absurd hf (by omega), fun _ => rfl⟩
      case round =>
        obtain ⟨k, y, hk, rfl, rfl, hph, hkx, hgf, hgh, hall, hex⟩ := hrel
        by_cases h3 : k < F
        · have hHD := phead_any hph (fun i hi => by have := HXX.out i hi; have := hkx.size; omega) HF.out HON.out k (by have := HN.out; have := HFE.out; omega)
          unfold HeadR at hHD
          have HRG := hgf
          have HALL := Lib.hid hall
          have HEX := Lib.hid hex
          have HKX2 := Lib.hid hkx
          have HGF2 := Lib.hid hgf
          have HGH2 := Lib.hid hgh
          have hkF : k < s.ws.length / 19 := by have := HFE.out; omega
          have HLN := Lib.hid (ldB_no (ws := s.ws) k hkF)
          have HE3 : Hid (exH s.ws → ∀ j, j < 3 → decH (s.ws.getD (k * 19 + j) 0) = 0) := fun h j hj => h k j hkF hj
          have htn := frM_tn s.ws k
          have hpg := frM_pg s.ws k
          have HLE := Lib.hid hpg
          have HB2 : Hid (B + 2 ≤ wr.heap.size) := by have := hgh.lt; show _ ≤ _; omega
          clear hph hkx hgf hgh hall hex HRG hkF
          cases hok : hokB s.ws k
          · rw [hok] at hHD
            have HHD := Lib.hid hHD
            have HLB : Hid (ldB s.ws = false) := HLN.out (by rw [hok]; simp)
            clear hHD hok
            go_wp2_with fail
            refine HHD.out.mono ?_
            rintro e w2 ⟨y2, rfl, hph2, hk2, hy2⟩
            go_wp2_with fail
            go_ret
            exact ⟨y2, by rw [HLB.out]; rfl, fun h => (hy2 (HE3.out h)).trans (HEX.out h), (HKX2.out.trans hk2).trans (KX.of_below (alloc_below _ _)), ⟨R, hph2.on (alloc_below _ _)⟩, fun h => by rw [HLB.out] at h; cases h⟩
          · rw [hok] at hHD
            have HHD := Lib.hid hHD
            have HOK := Lib.hid hok
            clear hHD hok
            have HTN := Lib.hid (rfl : (frM s.ws k).tn = (frM s.ws k).tn)
            obtain ⟨tk, htk⟩ : ∃ tk, (frM s.ws k).tn = tk := ⟨_, rfl⟩
            obtain ⟨pk, hpk⟩ : ∃ pk, (frM s.ws k).pg = pk := ⟨_, rfl⟩
            rw [htk, hpk] at HHD
            rw [htk] at htn
            rw [hpk] at hpg HLN
            have HTK := Lib.hid htk
            have HPK := Lib.hid hpk
            have HTU : Hid (turnR (frM s.ws) (k + 1) = max (turnR (frM s.ws) k) tk) := by show max _ _ = _; rw [htk]
            clear htk hpk
            by_cases hP : (P : Int) ≤ pk
            · have HLB : Hid (ldB s.ws = false) := HLN.out (by have := HPE.out; omega)
              go_wp2_with fail
              refine HHD.out.mono ?_
              rintro e w2 ⟨y2, rfl, hph2, hk2, hy2⟩
              have HGHb := Lib.hid hk2
              go_wp2_with fail
              go_ret
              exact ⟨y2, by rw [HLB.out]; rfl, fun h => (hy2 (HE3.out h)).trans (HEX.out h), (HKX2.out.trans hk2).trans (KX.of_below (alloc_below _ _)), ⟨R, hph2.on (alloc_below _ _)⟩, fun h => by rw [HLB.out] at h; cases h⟩
            · generalize turnR (frM s.ws) k = tu at *
              go_wp2_with fail
              refine HHD.out.mono ?_
              rintro e w2 ⟨y2, rfl, hph2, hk2, hy2⟩
              have hxB1 : ¬ X B := fun e => by have := HXB.out B e; omega
              have hxB2 : ¬ X (B + 1) := fun e => by have := HXB.out (B + 1) e; omega
              have hgf2 := HGF2.out.kx hk2 hxB1
              have hgh2 := HGH2.out.kx hk2 hxB2
              have p0 := hgf2.pg k h3
              have p1 := hgf2.tn k h3
              have f0 := hgf2.fz (k * 2)
              have f1 := hgf2.fz (k * 2 + 1)
              have hl2 := hgf2.lt
              have HPH2 := Lib.hid hph2
              have HK2 := Lib.hid hk2
              have HY2 := Lib.hid hy2
              have HGF3 := Lib.hid hgf2
              have HGH3 := Lib.hid hgh2
              have hkI : (k : Int) < (F : Int) := by omega
              clear hph2 hk2 hy2 hgf2 hgh2
              have HFR : Hid (frM s.ws k = ⟨pk, tk⟩) := by show _ = _; rw [← HPK.out, ← HTK.out]
              have HBZ : Hid (w.heap.size ≤ B) := by have := HBE.out; show _ ≤ _; omega
              have HMX : Hid (∀ x : Nat, x = max tu tk → x = turnR (frM s.ws) (k + 1)) := fun x hx => by rw [HTU.out]; exact hx
              go_wp2_with fail
              all_goals (
                have hsz2 : ((w2.setCell ⟨B, k * 2, none⟩ (.int .i64 pk)).setCell ⟨B, k * 2 + 1, none⟩ (.int .i64 (tk : Int))).heap.size = w2.heap.size := by simp [World.setCell]
                have hal := alloc_below ((w2.setCell ⟨B, k * 2, none⟩ (.int .i64 pk)).setCell ⟨B, k * 2 + 1, none⟩ (.int .i64 (tk : Int))) (.cells #[.int .i64 pk, .int .i64 (tk : Int)] 123)
                have hgh3 := HGH3.out
                have hgf3 := HGF3.out
                have HGF4 : GF _ B F (fmF s.ws (k + 1)) := ((hgf3.set k h3 pk tk (tk : Int) rfl).congr (fun f _ => fmF_up HFR.out f)).keep (hal.block B (by rw [hsz2]; exact hgf3.lt)) hal.size
                have HGH4 : GH _ (B + 1) P (fun j => homeR (frM s.ws) (j : Int) k) := ((hgh3.keep (set_blk (p := ⟨B, k * 2, none⟩) (u := .int .i64 pk) (by show B + 1 ≠ B; omega)) (set_size ..)).keep (set_blk (p := ⟨B, k * 2 + 1, none⟩) (u := .int .i64 (tk : Int)) (by show B + 1 ≠ B; omega)) (set_size ..)).keep (hal.block (B + 1) (by rw [hsz2]; exact hgh3.lt)) hal.size
                have HPH4 := ((HPH2.out.off (p := ⟨B, k * 2, none⟩) (.int .i64 pk) hxB1 (by show B ≠ 0; omega) (by show B ≠ 1; omega)).off (p := ⟨B, k * 2 + 1, none⟩) (.int .i64 (tk : Int)) hxB1 (by show B ≠ 0; omega) (by show B ≠ 1; omega)).on hal
                have HKX4 := (((HKX2.out.trans HK2.out).setn ⟨B, k * 2, none⟩ (.int .i64 pk) HBZ.out).setn ⟨B, k * 2 + 1, none⟩ (.int .i64 (tk : Int)) HBZ.out).trans (KX.of_below (X := X) hal)
                have xr : ((((w2.setCell ⟨B, k * 2, none⟩ (.int .i64 pk)).setCell ⟨B, k * 2 + 1, none⟩ (.int .i64 (tk : Int))).alloc (.cells #[.int .i64 pk, .int .i64 (tk : Int)] 123))).heap[w2.heap.size]? = some (.cells #[.int .i64 pk, .int .i64 (tk : Int)] 123 (0, 0)) := by
                  have := heap_alloc_new ((w2.setCell ⟨B, k * 2, none⟩ (.int .i64 pk)).setCell ⟨B, k * 2 + 1, none⟩ (.int .i64 (tk : Int))) (.cells #[.int .i64 pk, .int .i64 (tk : Int)] 123)
                  rw [hsz2] at this
                  exact this
                have HYY : Hid (exH s.ws → y2 = fx) := fun h => (HY2.out (HE3.out h)).trans (HEX.out h)
                have HAL2 : Hid (∀ f, f < k + 1 → hokB s.ws f = true ∧ (frM s.ws f).pg < (P : Int)) := good_up HALL.out ⟨HOK.out, by rw [HPK.out]; omega⟩
                have HGF4 := Lib.hid HGF4
                have HGH4 := Lib.hid HGH4
                have HPH4 := Lib.hid HPH4
                have HKX4 := Lib.hid HKX4
                clear p0 p1 f0 f1 hal hgh3 hgf3 hsz2 HHD HGF3 HGH3 HPH2 HK2 HKX2 HALL HEX HY2
                generalize (((w2.setCell ⟨B, k * 2, none⟩ (.int .i64 pk)).setCell ⟨B, k * 2 + 1, none⟩ (.int .i64 (tk : Int))).alloc (.cells #[.int .i64 pk, .int .i64 (tk : Int)] 123)) = w3 at *
                have x0 := cell_of_row _ _ 0 _ _ _ xr
                have x1 := cell_of_row _ _ 1 _ _ _ xr
                clear xr
                by_cases hm1 : pk = -1
                · rw [hm1] at x0
                  have HN2 : Hid (∀ j : Nat, j < P → homeR (frM s.ws) (j : Int) (k + 1) = homeR (frM s.ws) (j : Int) k) := homes_no fun j hj h => by have := h.1; rw [HFR.out] at this; have : pk = (j : Int) := this; omega
                  clear hm1
                  go_quiet (fail)
                  go_wp2
                  go_roundw
                  case rel => exact ⟨k + 1, y2, by omega, by go_num, by first | rfl | (congr 2; first | exact (HMX.out _ (by omega)) | (have := HMX.out _ rfl; omega)), HPH4.out.drewN _, HKX4.out.trans (KX.drewN _ _), HGF4.out.keep rfl (Nat.le_refl _), (HGH4.out.congr HN2.out).keep rfl (Nat.le_refl _), HAL2.out, HYY.out⟩
                  case measure => simp [intOf]; omega
                · obtain ⟨j, hjk⟩ : ∃ j : Nat, pk = (j : Int) := ⟨pk.toNat, by omega⟩
                  have hj : j < P := by omega
                  have hjI : (j : Int) < (P : Int) := by omega
                  have hpf : (frM s.ws k).pg = (j : Int) := by rw [HPK.out, hjk]
                  rw [hjk] at x0
                  have xh := HGH4.out.ho j hj
                  have zh := HGH4.out.fz j
                  have hrr := homeR_range (frM s.ws) (j : Int) k
                  have HYE := Lib.hid (homes_yes (fm := frM s.ws) (k := k) (P := P) hpf)
                  have HNE := Lib.hid (homes_no (fm := frM s.ws) (k := k) (P := P))
                  have HPF := Lib.hid hpf
                  have hm0 : ((j : Int) != -1) = true := by rw [bne_iff_ne]; omega
                  clear hm1 hjk hpf
                  obtain ⟨hh, hhe⟩ : ∃ hh, homeR (frM s.ws) (j : Int) k = hh := ⟨_, rfl⟩
                  have HHE := Lib.hid hhe
                  rw [hhe] at xh hrr HYE
                  clear hhe
                  rcases hrr with rfl | ⟨m, hm, rfl, _⟩
                  · have HY3 := Lib.hid (HYE.out (.inl rfl))
                    clear HYE HNE
                    go_quiet (fail)
                    have xh2 : (w3.drewN nq).cell? ⟨B + 1, j, none⟩ = some (.int .i64 (-1)) := xh
                    go_wp2
                    go_roundw
                    case rel => exact ⟨k + 1, y2, by omega, by go_num, by first | rfl | (congr 2; first | exact (HMX.out _ (by omega)) | (have := HMX.out _ rfl; omega)), (HPH4.out.drewN _).off _ hxB2 (by show B + 1 ≠ 0; omega) (by show B + 1 ≠ 1; omega), (HKX4.out.trans (KX.drewN _ _)).setn _ _ (by have := HBZ.out; show _ ≤ B + 1; omega), (HGF4.out.keep (w' := World.drewN _ _) rfl (Nat.le_refl _)).keep (set_blk (by show B ≠ B + 1; omega)) (set_size ..), ((HGH4.out.keep (w' := World.drewN _ _) rfl (Nat.le_refl _)).set j hj (k : Int)).congr HY3.out, HAL2.out, HYY.out⟩
                    case measure => simp [intOf]; omega
                  · have hmF : m < F := by omega
                    have hmI : (m : Int) < (F : Int) := by omega
                    have t1 := HGF4.out.tn m hmF
                    have hme1 : ((m : Int) == -1) = false := by rw [beq_eq_false_iff_ne]; omega
                    obtain ⟨tm, htm⟩ : ∃ tm, (fmF s.ws (k + 1) m).tn = tm := ⟨_, rfl⟩
                    rw [htm] at t1
                    have HTM := Lib.hid (tn_lt hm htm)
                    clear htm
                    by_cases hlt : tm < tk
                    · have HY3 := Lib.hid (HYE.out (.inr (by rw [Int.toNat_natCast, HTM.out, HTK.out]; exact hlt)))
                      clear HYE HNE
                      go_quiet (fail)
                      have xh2 : (w3.drewN nq).cell? ⟨B + 1, j, none⟩ = some (.int .i64 ((m : Int))) := xh
                      go_wp2
                      go_roundw
                      case rel => exact ⟨k + 1, y2, by omega, by go_num, by first | rfl | (congr 2; first | exact (HMX.out _ (by omega)) | (have := HMX.out _ rfl; omega)), (HPH4.out.drewN _).off _ hxB2 (by show B + 1 ≠ 0; omega) (by show B + 1 ≠ 1; omega), (HKX4.out.trans (KX.drewN _ _)).setn _ _ (by have := HBZ.out; show _ ≤ B + 1; omega), (HGF4.out.keep (w' := World.drewN _ _) rfl (Nat.le_refl _)).keep (set_blk (by show B ≠ B + 1; omega)) (set_size ..), ((HGH4.out.keep (w' := World.drewN _ _) rfl (Nat.le_refl _)).set j hj (k : Int)).congr HY3.out, HAL2.out, HYY.out⟩
                      case measure => simp [intOf]; omega
                    · have HN3 : Hid (∀ j : Nat, j < P → homeR (frM s.ws) (j : Int) (k + 1) = homeR (frM s.ws) (j : Int) k) := HNE.out (fun i hi h => by
                        have h1 := h.1
                        rw [HPF.out] at h1
                        obtain rfl : i = j := by omega
                        rcases h.2 with h2 | h2
                        · rw [HHE.out] at h2; omega
                        · rw [HHE.out, Int.toNat_natCast, HTM.out, HTK.out] at h2; omega)
                      clear HYE HNE
                      go_quiet (fail)
                      go_wp2
                      go_roundw
                      case rel => exact ⟨k + 1, y2, by omega, by go_num, by first | rfl | (congr 2; first | exact (HMX.out _ (by omega)) | (have := HMX.out _ rfl; omega)), HPH4.out.drewN _, HKX4.out.trans (KX.drewN _ _), HGF4.out.keep rfl (Nat.le_refl _), (HGH4.out.congr HN3.out).keep rfl (Nat.le_refl _), HAL2.out, HYY.out⟩
                      case measure => simp [intOf]; omega)
        · obtain rfl : F = k := by omega
          have r3 := cell_of_row _ _ 3 _ _ _ hph.row
          have HWR := Lib.hid (writes_any hph.ma)
          have c0 := cell_of_row _ _ 0 _ _ _ hph.row
          have c3 := cell_of_row _ _ 3 _ _ _ hph.row
          have c4 := cell_of_row _ _ 4 _ _ _ hph.row
          have c5 := cell_of_row _ _ 5 _ _ _ hph.row
          have c6 := cell_of_row _ _ 6 _ _ _ hph.row
          have z3 := frozen_of_row _ _ 3 _ _ hph.row
          have z4 := frozen_of_row _ _ 4 _ _ hph.row
          have z5 := frozen_of_row _ _ 5 _ _ hph.row
          have z6 := frozen_of_row _ _ 6 _ _ hph.row
          unfold hrow at c0 c3 c4 c5 c6
          have HPH := Lib.hid hph
          have HKX := Lib.hid hkx
          have HGF := Lib.hid (hgf.congr (fm' := frM s.ws) (fun f hf => by unfold fmF; rw [if_pos hf]))
          have HGH := Lib.hid hgh
          have HLB : Hid (ldB s.ws = true) := ldB_all fun f hf => by have := hall f (by have := HFE.out; omega); rw [HPE.out]; exact this
          have HEX := Lib.hid hex
          clear hph hkx hgf hgh hall hex
          go_wp2_with (go_at_call 33; refine HWR.out.mono ?_; rintro e _ ⟨rfl, rfl⟩)
          obtain ⟨hpf, hkf, hef⟩ := HPH.out.row4 (.slice (some ⟨B, 0, none⟩) F F) (.slice (some ⟨B + 1, 0, none⟩) P P) (.int .i64 (turnR (frM s.ws) F : Int)) (.int .i64 (s.wr : Int))
          have hBp : B ≠ pb := fun e => by have := HXB.out pb HPH.out.x1; omega
          have hBp2 : B + 1 ≠ pb := fun e => by have := HXB.out pb HPH.out.x1; omega
          go_ret
          refine ⟨y, by rw [HLB.out]; rfl, HEX.out, HKX.out.trans hkf, ⟨_, hpf⟩, fun _ => ⟨B, B + 1, by have := HBE.out; omega, by have := HBE.out; omega, by omega, ?_, ?_, ?_⟩⟩
          · rw [HFE.out]; exact HGF.out.keep (hef B hBp) hkf.size
          · rw [HFE.out, HPE.out]; exact HGH.out.keep (hef (B + 1) hBp2) hkf.size
          · rw [HFE.out, HPE.out]; exact hpf
end
end Go.Proofs.YtiholfpcndjliaaDoor
