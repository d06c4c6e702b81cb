/-
  The walk of put.
-/
import Derived.Test.YtiholfpcndjliaaDoorPgg
import Derived.StillTailTactics
namespace Go.Proofs.YtiholfpcndjliaaDoor
set_option linter.unusedVariables false
set_option linter.unusedSimpArgs false
open Go.RowKit

/-- The writes of put: reserve's, the body's, the mark. -/
def bdyL (f : Nat) (l : List UInt8) (k : Nat) : List Wr := (List.range k).map fun j => ⟨false, f * 19 + 3 + j, encW (numJ l (3 * j) 3)⟩
theorem bdyL_succ (f : Nat) (l : List UInt8) (k : Nat) : bdyL f l (k + 1) = bdyL f l k ++ [⟨false, f * 19 + 3 + k, encW (numJ l (3 * k) 3)⟩] := by simp [bdyL, List.range_succ]
theorem bdyL_len (f : Nat) (l : List UInt8) (k : Nat) : (bdyL f l k).length = k := by simp [bdyL]
def mrkL (f i : Nat) : Wr := ⟨false, f * 19, encW (i + 1)⟩
/-- All writes of put. -/
def pgL (f t i : Nat) (l : List UInt8) : List Wr := resL f t 3 ++ bdyL f l 16 ++ [mrkL f i]
theorem bdyL_split' (f : Nat) (l : List UInt8) (k : Nat) : ∀ j, ∃ m, bdyL f l (j + (k + 1)) = bdyL f l k ++ ⟨false, f * 19 + 3 + k, encW (numJ l (3 * k) 3)⟩ :: m
  | 0 => ⟨[], by rw [Nat.zero_add, bdyL_succ]⟩
  | j + 1 => by
    obtain ⟨m, hm⟩ := bdyL_split' f l k j
    refine ⟨m ++ [⟨false, f * 19 + 3 + (j + (k + 1)), encW (numJ l (3 * (j + (k + 1))) 3)⟩], ?_⟩
    rw [show j + 1 + (k + 1) = (j + (k + 1)) + 1 by omega, bdyL_succ, hm]
    simp
theorem bdyL_split (f : Nat) (l : List UInt8) (k : Nat) (hk : k < 16) : ∃ m, bdyL f l 16 = bdyL f l k ++ ⟨false, f * 19 + 3 + k, encW (numJ l (3 * k) 3)⟩ :: m := by
  have := bdyL_split' f l k (16 - (k + 1))
  rw [show 16 - (k + 1) + (k + 1) = 16 by omega] at this
  exact this
theorem bdyL_lt (f : Nat) (l : List UInt8) (k : Nat) : ∀ x ∈ bdyL f l k, x.v < 4294967296 := by
  intro x hx
  obtain ⟨j, _, rfl⟩ := List.mem_map.1 hx
  exact encW_lt _
theorem pgL_lt (f t i : Nat) (l : List UInt8) : ∀ x ∈ pgL f t i l, x.v < 4294967296 := by
  intro x hx
  simp only [pgL, List.mem_append, List.mem_singleton] at hx
  rcases hx with (hx | hx) | rfl
  · exact resL_lt _ _ _ x hx
  · exact bdyL_lt _ _ _ x hx
  · exact encW_lt _
theorem pgL_len (f t i : Nat) (l : List UInt8) : (pgL f t i l).length = 20 := by simp [pgL, resL_len, bdyL_len]
theorem pack48 (l : List UInt8) (hl : l.length = 48) : packL l = packK l 16 := by unfold packL wordsK; rw [hl]
theorem packK_at (l : List UInt8) (n k : Nat) (h : k < n) : (packK l n).getD k 0 = encW (numJ l (3 * k) 3) := by simp [packK, List.getD, h]

/-- What pages keep behind a put. -/
def putD (d : PD) (f i wr : Nat) : PD := { d with fm := fun j => if j = f then ⟨(i : Int), d.tm + 1⟩ else d.fm j, hm := fun j => if j = i then (f : Int) else d.hm j, tm := d.tm + 1, wr := wr }
section
variable {w w' : World} {X : Nat → Prop} {pb b g gf gh lf : Nat} {s : St} {d : PD} {fx : Int}
theorem PM.pv (h : PM w X pb b g gf gh s lf d fx) (hq : ∀ f, f < d.F → -1 ≤ (d.fm f).pg ∧ (d.fm f).pg < (d.P : Int)) : PV w.heap.size w pb b gf gh d fx := ⟨h.pg, h.pg.l1, h.pg.l2, h.pg.l3, Nat.le_refl _, hq⟩

/-- earliest of what visit returns. -/
def FarR (d : PD) (fr : Bool) (w0 : World) (e : Ending) (w' : World) : Prop := e = .returned (.int .i64 (firstR (selB d fr) d.fm d.F)) ∧ Below w0.heap.size w0 w'
theorem far_any {w0 : World} (hb0 : Below w0.heap.size w0 w) (h : PM w X pb b g gf gh s lf d fx) (hq : ∀ f, f < d.F → -1 ≤ (d.fm f).pg ∧ (d.fm f).pg < (d.P : Int)) (fr : Bool) :
    Calls Tryd.prog 77 #[.pointer (some ⟨pb, 0, none⟩), .bool fr] w fun e w' => ∃ Bp Bf, e = .returned (.func (.func 90) #[] #[.pointer (some ⟨Bp, 0, none⟩), .pointer (some ⟨Bf, 0, none⟩)]) ∧ Below w0.heap.size w0 w' ∧
      ∀ m, Calls Tryd.prog 76 #[.pointer (some ⟨pb, 0, none⟩), .func (.func 90) #[] #[.pointer (some ⟨Bp, 0, none⟩), .pointer (some ⟨Bf, 0, none⟩)]] (w'.drewN m) (FarR d fr w0) := by
  refine (callsIn_wide.1 (visit_in 3 pb fr w)).mono ?_
  rintro e w' ⟨rfl, rfl⟩
  have hb : Below w.heap.size w ((w.alloc (.cells #[.pointer (some ⟨pb, 0, none⟩)] 31)).alloc (.cells #[.bool fr] 4)) := (alloc_below _ _).alloc (by simp) _
  have hb2 := hb0.trans (hb.mono hb0.size)
  refine ⟨_, _, rfl, hb2, fun m => ?_⟩
  have hpm := (h.on hb).drewN m
  refine (earliest_any _ _ fr (hpm.pv hq) ⟨by show w.heap.size < ((w.alloc _).alloc _).heap.size; simp; omega, ?_⟩ ⟨by show w.heap.size + 1 < ((w.alloc _).alloc _).heap.size; simp, ?_⟩).mono fun e w' ⟨h1, h2⟩ => ⟨h1, (below_drewN hb2 m).trans (h2.mono hb2.size)⟩
  · show ((w.alloc (.cells #[.pointer (some ⟨pb, 0, none⟩)] 31)).alloc (.cells #[.bool fr] 4)).cell? _ = _
    have := ((Boxed.new w 31 (.pointer (some ⟨pb, 0, none⟩))).alloc (.cells #[.bool fr] 4)).cell
    exact this
  · show ((w.alloc (.cells #[.pointer (some ⟨pb, 0, none⟩)] 31)).alloc (.cells #[.bool fr] 4)).cell? _ = _
    have := (Boxed.new (w.alloc (.cells #[.pointer (some ⟨pb, 0, none⟩)] 31)) 4 (.bool fr)).cell
    rw [alloc_size] at this
    exact this

/-- The three stores of a put into the frames and the homes. -/
theorem PM.arr (h : PM w X pb b g gf gh s lf d fx) (f i t : Nat) (hf : f < d.F) (hi : i < d.P) :
    PM (((w.setCell ⟨gf, f * 2, none⟩ (.int .i64 (i : Int))).setCell ⟨gf, f * 2 + 1, none⟩ (.int .i64 (t : Int))).setCell ⟨gh, i, none⟩ (.int .i64 (f : Int))) X pb b g gf gh s lf
      { d with fm := fun j => if j = f then ⟨(i : Int), t⟩ else d.fm j, hm := fun j => if j = i then (f : Int) else d.hm j } fx ∧
    KX X w (((w.setCell ⟨gf, f * 2, none⟩ (.int .i64 (i : Int))).setCell ⟨gf, f * 2 + 1, none⟩ (.int .i64 (t : Int))).setCell ⟨gh, i, none⟩ (.int .i64 (f : Int))) := by
  have hk : KX X w (((w.setCell ⟨gf, f * 2, none⟩ (.int .i64 (i : Int))).setCell ⟨gf, f * 2 + 1, none⟩ (.int .i64 (t : Int))).setCell ⟨gh, i, none⟩ (.int .i64 (f : Int))) := (((KX.refl X w).set _ _ h.x4).set _ _ h.x4).set _ _ h.x5
  have n3 := h.pg.n3
  have e1 : ∀ k, k ≠ gf → k ≠ gh → (((w.setCell ⟨gf, f * 2, none⟩ (.int .i64 (i : Int))).setCell ⟨gf, f * 2 + 1, none⟩ (.int .i64 (t : Int))).setCell ⟨gh, i, none⟩ (.int .i64 (f : Int))).heap[k]? = w.heap[k]? := fun k h1 h2 => by rw [set_blk h2, set_blk h1, set_blk h1]
  have hs := hk.size
  have p0 := h.pg.pg f hf
  have p1 := h.pg.tn f hf
  have p2 := h.pg.ho i hi
  refine ⟨⟨h.ma.keep (e1 _ (Ne.symm h.d3) (Ne.symm h.d5)) (e1 _ (Ne.symm h.d4) (Ne.symm h.d6)) hs, ⟨?_, fun j hj => ?_, fun j hj => ?_, fun j hj => ?_, fun j => ?_, fun j => ?_, h.pg.n1, h.pg.n2, h.pg.n3, Nat.lt_of_lt_of_le h.pg.l1 hs, Nat.lt_of_lt_of_le h.pg.l2 hs, Nat.lt_of_lt_of_le h.pg.l3 hs, h.pg.f1, h.pg.p1, h.pg.p2⟩,
    h.x1, h.x2, h.x3, h.x4, h.x5, h.d1, h.d2, h.d3, h.d4, h.d5, h.d6, h.tb.kx hk h.y0 h.y1, h.y0, h.y1⟩, hk⟩
  · exact (e1 _ h.pg.n1 h.pg.n2).trans h.pg.row
  · rw [far_set _ _ n3]
    by_cases e : j = f
    · subst e
      rw [World.cell?_setCell_other _ _ _ _ (by simp)]
      simp only [if_true]
      exact World.cell?_setCell_same _ _ _ p0
    · rw [World.cell?_setCell_other _ _ _ _ (by simp <;> omega), World.cell?_setCell_other _ _ _ _ (by simp <;> omega), h.pg.pg j hj]
      simp [e]
  · rw [far_set _ _ n3]
    by_cases e : j = f
    · subst e
      simp only [if_true]
      exact World.cell?_setCell_same _ _ _ ((World.cell?_setCell_other _ _ _ _ (by simp)).trans p1)
    · rw [World.cell?_setCell_other _ _ _ _ (by simp <;> omega), World.cell?_setCell_other _ _ _ _ (by simp <;> omega), h.pg.tn j hj]
      simp [e]
  · by_cases e : j = i
    · subst e
      simp only [if_true]
      exact World.cell?_setCell_same _ _ _ ((far_set _ _ (Ne.symm n3)).trans ((far_set _ _ (Ne.symm n3)).trans p2))
    · rw [World.cell?_setCell_other _ _ _ _ (by simp <;> omega), far_set _ _ (Ne.symm n3), far_set _ _ (Ne.symm n3), h.pg.ho j hj]
      simp [e]
  · rw [World.frozen?_setCell, World.frozen?_setCell, World.frozen?_setCell]; exact h.pg.ff j
  · rw [World.frozen?_setCell, World.frozen?_setCell, World.frozen?_setCell]; exact h.pg.fh j
/-- The latest turn and the number of writes have turned. -/
theorem PM.row56 (h : PM w X pb b g gf gh s lf d fx) (t r : Nat) (z : Int) (hz : z = (t : Int)) :
    PM ((w.setCell ⟨pb, 5, none⟩ (.int .i64 z)).setCell ⟨pb, 6, none⟩ (.int .i64 (r : Int))) X pb b g gf gh s lf { d with tm := t, wr := r } fx ∧ KX X w ((w.setCell ⟨pb, 5, none⟩ (.int .i64 z)).setCell ⟨pb, 6, none⟩ (.int .i64 (r : Int))) := by
  subst hz
  have hk : KX X w ((w.setCell ⟨pb, 5, none⟩ (.int .i64 (t : Int))).setCell ⟨pb, 6, none⟩ (.int .i64 (r : Int))) := ((KX.refl X w).set _ _ h.x1).set _ _ h.x1
  have e1 : ∀ k, k ≠ pb → ((w.setCell ⟨pb, 5, none⟩ (.int .i64 (t : Int))).setCell ⟨pb, 6, none⟩ (.int .i64 (r : Int))).heap[k]? = w.heap[k]? := fun k h1 => by rw [set_blk h1, set_blk h1]
  have hs := hk.size
  have r1 := heap_set_row (i := 5) (u := .int .i64 (t : Int)) h.pg.row
  have r2 := heap_set_row (i := 6) (u := .int .i64 (r : Int)) r1
  have e2 := e1 gf (Ne.symm h.pg.n1)
  have e3 := e1 gh (Ne.symm h.pg.n2)
  exact ⟨⟨h.ma.keep (e1 _ (Ne.symm h.d1)) (e1 _ (Ne.symm h.d2)) hs, ⟨r2, fun f hf => (World.cell?_of_block (w := w) e2).trans (h.pg.pg f hf), fun f hf => (World.cell?_of_block (w := w) e2).trans (h.pg.tn f hf), fun f hf => (World.cell?_of_block (w := w) e3).trans (h.pg.ho f hf),
    fun j => (World.frozen?_of_block (w := w) e2).trans (h.pg.ff j), fun j => (World.frozen?_of_block (w := w) e3).trans (h.pg.fh j), h.pg.n1, h.pg.n2, h.pg.n3, Nat.lt_of_lt_of_le h.pg.l1 hs, Nat.lt_of_lt_of_le h.pg.l2 hs, Nat.lt_of_lt_of_le h.pg.l3 hs, h.pg.f1, h.pg.p1, h.pg.p2⟩,
    h.x1, h.x2, h.x3, h.x4, h.x5, h.d1, h.d2, h.d3, h.d4, h.d5, h.d6, h.tb.kx hk h.y0 h.y1, h.y0, h.y1⟩, hk⟩

def PutR (X : Nat → Prop) (pb b g gf gh : Nat) (d : PD) (fx : Int) (f i : Nat) (r : St × Int) (w : World) (e : Ending) (w' : World) : Prop :=
  ∃ lf', e = .returned (.int .i64 r.2) ∧ PM w' X pb b g gf gh r.1 lf' (if r.2 = 0 then putD d f i r.1.wr else d) fx ∧ KX X w w'
set_option maxRecDepth 100000 in
set_option maxHeartbeats 3200000 in
theorem put_page {N : Nat} (h : PM w X pb b g gf gh s lf d fx) (hF : Fine s N) (hN : N + 20 < 1000000) (hon : s.on = true) (f i : Nat) (hff : firstR (selB d true) d.fm d.F = (f : Int)) (hf : f < d.F) (hfl : f * 19 + 19 ≤ s.ws.length) (hi : i < d.P) (ht : d.tm + 1 < 16777216)
    (hq : ∀ f, f < d.F → -1 ≤ (d.fm f).pg ∧ (d.fm f).pg < (d.P : Int)) (v : Value) (l : List UInt8) (hv : SL w w.heap.size v l) (hl : l.length = 48) (hX : ∀ k, X k → k < w.heap.size)
    (hvX : ∀ w2, KX X w w2 → SL w2 w2.heap.size v l) :
    Calls Tryd.prog 56 #[.pointer (some ⟨pb, 0, none⟩), .int .i64 (i : Int), v] w (PutR X pb b g gf gh d fx f i (runC s (pgL f (d.tm + 1) i l)) w) := by
  have hlen := h.ma.n2
  have hf1 := h.pg.f1
  have HFA := Lib.hid (fun n => far_any (drewN_below w.heap.size w n) (h.drewN n) hq true)
  have HFF := Lib.hid hff
  have HF := Lib.hid hF
  have HON := Lib.hid hon
  have HPM0 := Lib.hid h
  have HVX := Lib.hid hvX
  have HXX := Lib.hid hX
  have c5 := cell_of_row _ _ 5 _ _ _ h.pg.row
  unfold prow at c5
  have hpbl := h.pg.l1
  have HC5 : Hid (∀ W, Below w.heap.size w W → W.cell? ⟨pb, 5, none⟩ = some (.int .i64 (d.tm : Int))) := fun W hW => (hW.cell (p := ⟨pb, 5, none⟩) hpbl).trans c5
  have hP := h.pg.p2
  clear h hff hF hon hvX hX hq hv
  go_enter Tryd.func56, Tryd.ntmps56
  go_wp2_with fail
  go_region_held3 (fun w' => w'.cell? ⟨pb, 5, none⟩ = some (.int .i64 (d.tm : Int)))
    (first | (go_keep; done))
    (first
      | (go_at_call 77; refine (HFA.out _).mono ?_; rintro e w1 ⟨Bp, Bf, rfl, hb1, HE1'⟩; have HE1 := Lib.hid HE1'; clear HE1'; have x1 := HC5.out _ hb1; have HB1 := Lib.hid hb1; clear hb1)
      | (go_at_call 76; refine (HE1.out 0).mono ?_; rintro e w2 ⟨rfl, hb2⟩; have x2 := HC5.out _ hb2; have HB2 := Lib.hid hb2; clear hb2))
  have hwr : IntKind.i64.wrap ((d.tm : Int) + 1) = ((d.tm + 1 : Nat) : Int) := by rw [IntWalk.i64_in _ (by omega)]; omega
  rw [HFF.out, hwr]
  obtain ⟨T, hT⟩ : ∃ T, d.tm + 1 = T := ⟨_, rfl⟩
  rw [hT] at ht hwr
  rw [hT]
  have HT := Lib.hid hT
  have HPM2 := Lib.hid (HPM0.out.on HB2.out)
  have HRS := Lib.hid (reserve_any HPM2.out HF.out (by omega) HON.out f T hfl ht)
  have HK2 := Lib.hid (KX.of_below (X := X) HB2.out)
  have HRZ := Lib.hid (fun h => runC_on s (resL f T 3) h)
  have HAP : Hid (∀ l2, runC s (resL f T 3 ++ l2) = if (runC s (resL f T 3)).2 = 0 then runC (runC s (resL f T 3)).1 l2 else runC s (resL f T 3)) := fun l2 => runC_append s _ l2
  have HFN : Hid (∀ k, Fine (runC s (resL f T 3 ++ bdyL f l k)).1 (N + (3 + k))) := fun k => by
    have := HF.out.runC (resL f T 3 ++ bdyL f l k) (fun x hx => by
      rcases List.mem_append.1 hx with h | h
      · exact resL_lt _ _ _ x h
      · exact bdyL_lt _ _ _ x h)
    rw [List.length_append, resL_len, bdyL_len] at this
    exact this
  clear hT hwr x1 x2 HE1 HC5 HFA HB1 HB2
  unfold RunR at HRS
  go_wp2_with fail
  refine HRS.out.mono ?_
  rintro e w3 ⟨lf3, rfl, hpm3, hk3⟩
  have hk3' := HK2.out.trans hk3
  have hv3 := HVX.out w3 hk3'
  have HPM3 := Lib.hid hpm3
  have HK3 := Lib.hid hk3'
  clear hpm3 hk3 hk3'
  by_cases hz : (runC s (resL f T 3)).2 = 0
  · have HZ := Lib.hid hz
    rw [hz]
    have HPK := Lib.hid (ppack_any l v w3 hv3 (by omega) HPM3.out.tb)
    have hon3 := HRZ.out hz
    clear hz hv3
    unfold PackR at HPK
    go_wp2_with fail
    refine HPK.out.mono ?_
    rintro e w4 ⟨v', rfl, hown, hb4⟩
    rw [pack48 l hl] at hown
    have hown2 : w4.ownsRow w3.heap.size 59 1 v' 16 ((packK l 16).map wv) := by have := hown; unfold OW at this; rw [packK_len] at this; exact this
    obtain ⟨g', cap, rfl, _, _⟩ := World.ownsRow.form hown2 (by simp [packK_len])
    have hg' : w3.heap.size ≤ g' := hown2.lt g' rfl |>.1
    have hgl : g' < w4.heap.size := (hown2.lt g' rfl).2
    have HWC : Hid (∀ j, j < 16 → w4.cell? ⟨g', j, none⟩ = some (.int .u32 (encW (numJ l (3 * j) 3) : Int))) := fun j hj => by
      have hc := OW.cellAt (l := packK l 16) (by unfold OW; rw [packK_len]; exact hown2) j (by rw [packK_len]; exact hj)
      rw [packK_at l 16 j hj] at hc
      exact hc
    have hgX : ¬ X g' := fun e => by have := HXX.out _ e; have := HK3.out.size; omega
    have HPM4 := Lib.hid (HPM3.out.on hb4)
    have HK4 := Lib.hid (HK3.out.trans (KX.of_below (X := X) hb4))
    clear hown hown2 hb4
    have HAPZ : Hid (∀ l2, runC s (resL f T 3 ++ l2) = runC (runC s (resL f T 3)).1 l2) := fun l2 => by rw [HAP.out, if_pos HZ.out]
    go_wp2_with fail
    go_loopw [33] (fun i wr => ∃ (k lf' : Nat), k ≤ 16 ∧ i = .int .i64 (k : Int) ∧ (runC s (resL f T 3 ++ bdyL f l k)).2 = 0 ∧ PM wr X pb b g gf gh (runC s (resL f T 3 ++ bdyL f l k)).1 lf' d fx ∧ KX X w4 wr) (fun i _ => 16 - (intOf i).toNat)
    case atStart => exact ⟨0, lf3, by omega, rfl, by show (runC s (resL f T 3 ++ [])).2 = 0; rw [List.append_nil]; exact HZ.out, by show PM w4 X pb b g gf gh (runC s (resL f T 3 ++ [])).1 lf3 d fx; rw [List.append_nil]; exact HPM4.out, KX.refl ..⟩
    case round =>
      obtain ⟨k, lf', hk, rfl, hz, hpm, hkx⟩ := hrel
      by_cases h3 : k < 16
      · have HNX := Lib.hid (runC_next s (resL f T 3 ++ bdyL f l k) ⟨false, f * 19 + 3 + k, encW (numJ l (3 * k) 3)⟩ hz)
        have HHT := Lib.hid (fun m => runC_halt s (resL f T 3 ++ bdyL f l k) m ⟨false, f * 19 + 3 + k, encW (numJ l (3 * k) 3)⟩ hz)
        have HSP := Lib.hid (bdyL_split f l k h3)
        have hfine := HFN.out k
        have honk : (runC s (resL f T 3 ++ bdyL f l k)).1.on = true := by rw [runC_on _ _ hz, HON.out]
        have HSU : Hid (resL f T 3 ++ bdyL f l k ++ [⟨false, f * 19 + 3 + k, encW (numJ l (3 * k) 3)⟩] = resL f T 3 ++ bdyL f l (k + 1)) := by show _ = _; rw [bdyL_succ, List.append_assoc]
        rw [HSU.out] at HNX
        obtain ⟨u, hu⟩ : ∃ u, (runC s (resL f T 3 ++ bdyL f l k)).1 = u := ⟨_, rfl⟩
        rw [hu] at HNX HHT hpm hfine honk
        have HSC : Hid (stepC u ⟨false, f * 19 + 3 + k, encW (numJ l (3 * k) 3)⟩ = (wrS u ((f * 19 + 3 + k : Nat) : Int) (encW (numJ l (3 * k) 3)), wrE u ((f * 19 + 3 + k : Nat) : Int))) := by
          show _ = _
          unfold stepC
          rw [if_neg (by simp)]
        have he : encW (numJ l (3 * k) 3) < 4294967296 := encW_lt _
        have hwc := (hkx.cell (p := ⟨g', k, none⟩) hgl hgX).trans (HWC.out k h3)
        have HWR := Lib.hid (write_any hpm.ma hfine (by omega) ((f * 19 + 3 + k : Nat) : Int) (encW (numJ l (3 * k) 3)) (by omega) he)
        have c0 := cell_of_row _ _ 0 _ _ _ hpm.pg.row
        unfold prow at c0
        have HPM := Lib.hid hpm
        have HKX := Lib.hid hkx
        have hki : (k : Int) < 16 := by omega
        clear hz hpm hkx hu hfine honk
        generalize encW (numJ l (3 * k) 3) = v at *
        obtain ⟨q, hq⟩ : ∃ q, wrE u ((f * 19 + 3 + k : Nat) : Int) = q := ⟨_, rfl⟩
        obtain ⟨y, hy⟩ : ∃ y, wrS u ((f * 19 + 3 + k : Nat) : Int) v = y := ⟨_, rfl⟩
        rw [hq, hy] at HWR HSC
        clear hq hy
        have HWR : Hid (∀ (z : Int), z = ((f * 19 + 3 + k : Nat) : Int) → Calls Tryd.prog 80 #[.pointer (some ⟨b, 0, none⟩), .int .i64 z, .int .u32 (v : Int)] wr fun e w' => e = .returned (.int .i64 q) ∧ (∃ lf', MA w' b g y lf') ∧ Kp b g wr w') := fun z hz => by subst hz; exact HWR.out
        by_cases hq0 : q = 0
        · subst hq0
          go_wp2_with (go_at_call 80; refine (HWR.out _ (by omega)).mono ?_; rintro e w5 ⟨rfl, hm5, hk5⟩)
          obtain ⟨lf5, hm5⟩ := hm5
          go_roundw
          case rel =>
            have h1 := HNX.out (by rw [HSC.out])
            rw [HSC.out] at h1
            exact ⟨k + 1, lf5, by omega, by go_num, h1.2, by rw [h1.1]; exact HPM.out.mem hm5 hk5, HKX.out.trans (KX.of_kp hk5 HPM.out.x2 HPM.out.x3)⟩
          case measure => simp [intOf]; omega
        · have hqb : (q != 0) = true := by rw [bne_iff_ne]; exact hq0
          have HQ0 := Lib.hid hq0
          clear hq0
          go_wp2_with (go_at_call 80; refine (HWR.out _ (by omega)).mono ?_; rintro e w5 ⟨rfl, hm5, hk5⟩)
          obtain ⟨lf5, hm5⟩ := hm5
          go_ret
          obtain ⟨m, hm⟩ := HSP.out
          have h1 := HHT.out (m ++ [mrkL f i]) (by rw [HSC.out]; exact HQ0.out)
          rw [HSC.out] at h1
          have e1 : pgL f T i l = resL f T 3 ++ bdyL f l k ++ ⟨false, f * 19 + 3 + k, v⟩ :: (m ++ [mrkL f i]) := by unfold pgL; rw [hm]; simp
          rw [HT.out, e1, h1]
          refine ⟨lf5, rfl, ?_, (HK4.out.trans HKX.out).trans (KX.of_kp hk5 HPM.out.x2 HPM.out.x3)⟩
          rw [if_neg HQ0.out]
          exact HPM.out.mem hm5 hk5
      · obtain rfl : k = 16 := by omega
        have hfine := HFN.out 16
        have honk : (runC s (resL f T 3 ++ bdyL f l 16)).1.on = true := by rw [runC_on _ _ hz, HON.out]
        have HNX := Lib.hid (runC_snoc s (resL f T 3 ++ bdyL f l 16) (mrkL f i) hz)
        obtain ⟨u, hu⟩ : ∃ u, (runC s (resL f T 3 ++ bdyL f l 16)).1 = u := ⟨_, rfl⟩
        rw [hu] at HNX hpm hfine honk
        have HSC : Hid (stepC u (mrkL f i) = (wrS u ((f * 19 : Nat) : Int) (encW (i + 1)), wrE u ((f * 19 : Nat) : Int))) := by
          show _ = _
          unfold stepC mrkL
          rw [if_neg (by simp)]
        rw [HSC.out] at HNX
        have he : encW (i + 1) < 4294967296 := encW_lt _
        have HCW : Hid (∀ W (z : Int), Below wr.heap.size wr W → z = ((i + 1 : Nat) : Int) → Calls Tryd.prog 81 #[.int .i64 z] W fun e W' => e = .returned (.int .u32 (encW (i + 1) : Int)) ∧ Below wr.heap.size wr W') := fun W z hb hz => by
          subst hz
          exact (pcode_any (i + 1) W (by omega) (hpm.tb.on hb)).mono fun e W' ⟨h1, n, h2⟩ => ⟨h1, by rw [h2]; exact below_drewN hb n⟩
        have HWR : Hid (∀ W (z : Int), Below wr.heap.size wr W → z = ((f * 19 : Nat) : Int) → Calls Tryd.prog 80 #[.pointer (some ⟨b, 0, none⟩), .int .i64 z, .int .u32 (encW (i + 1) : Int)] W fun e w' => e = .returned (.int .i64 (wrE u ((f * 19 : Nat) : Int))) ∧ (∃ lf', PM w' X pb b g gf gh (wrS u ((f * 19 : Nat) : Int) (encW (i + 1))) lf' d fx) ∧ KX X wr w') := fun W z hb hz => by
          subst hz
          refine (write_any (hpm.on hb).ma hfine (by omega) ((f * 19 : Nat) : Int) (encW (i + 1)) (by omega) he).mono ?_
          rintro e w' ⟨h1, ⟨lf2, h2⟩, h3⟩
          exact ⟨h1, ⟨lf2, (hpm.on hb).mem h2 h3⟩, (KX.of_below hb).trans (KX.of_kp h3 hpm.x2 hpm.x3)⟩
        have c0 := cell_of_row _ _ 0 _ _ _ hpm.pg.row
        unfold prow at c0
        have HPM := Lib.hid hpm
        have HKX := Lib.hid hkx
        have HW1 : Hid (IntKind.i64.wrap ((i : Int) + 1) = ((i + 1 : Nat) : Int)) := by show _ = _; rw [IntWalk.i64_in _ (by omega)]; omega
        have HW2 : Hid (IntKind.i64.wrap (IntKind.i64.wrap ((f : Int) * 19)) = ((f * 19 : Nat) : Int)) := by show _ = _; rw [IntWalk.i64_in ((f : Int) * 19) (by omega), IntWalk.i64_in _ (by omega)]; omega
        have hb0 : Below wr.heap.size wr wr.drew := drewN_below _ _ 1
        clear hz hpm hkx hu hfine honk HAP HAPZ HFN HRZ HWC
        generalize encW (i + 1) = v at *
        obtain ⟨q, hq⟩ : ∃ q, wrE u ((f * 19 : Nat) : Int) = q := ⟨_, rfl⟩
        obtain ⟨y, hy⟩ : ∃ y, wrS u ((f * 19 : Nat) : Int) v = y := ⟨_, rfl⟩
        rw [hq, hy] at HWR HNX
        clear hq hy
        go_wp2_with fail
        go_region_held3 (fun w' => w'.cell? ⟨pb, 0, none⟩ = some (.pointer (some ⟨b, 0, none⟩)))
          (first | (go_keep; done))
          (first
            | (go_at_call 81; (with_reducible refine (HCW.out _ _ hb0 HW1.out).mono ?_); rintro e w5 ⟨rfl, hb5⟩; have x5 := (hb5.cell (p := ⟨pb, 0, none⟩) HPM.out.pg.l1).trans c0; have HB5 := Lib.hid hb5; clear hb5)
            | (go_at_call 80; (with_reducible refine (HWR.out _ _ HB5.out HW2.out).mono ?_); rintro e w6 ⟨rfl, ⟨lf6, hpm6⟩, hk6⟩; have x6 := cell_of_row _ _ 0 _ _ _ hpm6.pg.row; unfold prow at x6; have HPM6 := Lib.hid hpm6; have HK6 := Lib.hid hk6; clear hpm6 hk6))
        by_cases hq0 : q = 0
        · subst hq0
          have HNY : Hid (runC s (pgL f T i l) = (y, 0)) := by show _ = _; have := HNX.out; rw [if_pos rfl] at this; exact this
          clear HNX
          clear x5 x6 HB5 hb0 c0
          have hp6 := HPM6.out
          have c3 := cell_of_row _ _ 3 _ _ _ hp6.pg.row
          have c4 := cell_of_row _ _ 4 _ _ _ hp6.pg.row
          unfold prow at c3 c4
          have p0 := hp6.pg.pg f hf
          have p1 := hp6.pg.tn f hf
          have p2 := hp6.pg.ho i hi
          have f0 := hp6.pg.ff (f * 2)
          have f1 := hp6.pg.ff (f * 2 + 1)
          have f2 := hp6.pg.fh i
          have n3 := hp6.pg.n3
          have n3' := Ne.symm n3
          have n1 := hp6.pg.n1
          have n2 := hp6.pg.n2
          have hfI : (f : Int) < (d.F : Int) := by omega
          have hiI : (i : Int) < (d.P : Int) := by omega
          clear hp6
          go_wp2_with fail
          have hS1 : ((w6.setCell ⟨gf, f * 2, none⟩ (.int .i64 (i : Int))).setCell ⟨gf, f * 2 + 1, none⟩ (.int .i64 (T : Int))).drew.cell? ⟨pb, 3, none⟩ = some (.slice (some ⟨gf, 0, none⟩) d.F d.F) ∧ ((w6.setCell ⟨gf, f * 2, none⟩ (.int .i64 (i : Int))).setCell ⟨gf, f * 2 + 1, none⟩ (.int .i64 (T : Int))).drew.cell? ⟨pb, 4, none⟩ = some (.slice (some ⟨gh, 0, none⟩) d.P d.P) := by
            constructor
            · show ((w6.setCell _ _).setCell _ _).cell? _ = _
              rw [far_set _ _ n1, far_set _ _ n1]; exact c3
            · show ((w6.setCell _ _).setCell _ _).cell? _ = _
              rw [far_set _ _ n1, far_set _ _ n1]; exact c4
          have hS2 : (((w6.setCell ⟨gf, f * 2, none⟩ (.int .i64 (i : Int))).setCell ⟨gf, f * 2 + 1, none⟩ (.int .i64 (T : Int))).setCell ⟨gh, i, none⟩ (.int .i64 (f : Int))).drew.cell? ⟨pb, 3, none⟩ = some (.slice (some ⟨gf, 0, none⟩) d.F d.F) ∧ (((w6.setCell ⟨gf, f * 2, none⟩ (.int .i64 (i : Int))).setCell ⟨gf, f * 2 + 1, none⟩ (.int .i64 (T : Int))).setCell ⟨gh, i, none⟩ (.int .i64 (f : Int))).drew.cell? ⟨pb, 4, none⟩ = some (.slice (some ⟨gh, 0, none⟩) d.P d.P) := by
            constructor
            · show (((w6.setCell _ _).setCell _ _).setCell _ _).cell? _ = _
              rw [far_set _ _ n2, far_set _ _ n1, far_set _ _ n1]; exact c3
            · show (((w6.setCell _ _).setCell _ _).setCell _ _).cell? _ = _
              rw [far_set _ _ n2, far_set _ _ n1, far_set _ _ n1]; exact c4
          go_region_held3 (fun w' => w'.cell? ⟨pb, 3, none⟩ = some (.slice (some ⟨gf, 0, none⟩) d.F d.F) ∧ w'.cell? ⟨pb, 4, none⟩ = some (.slice (some ⟨gh, 0, none⟩) d.P d.P))
            (first | (go_keep; done) | with_reducible exact hS1 | with_reducible exact hS2)
            (fail)
          obtain ⟨hpm7, hk7⟩ := HPM6.out.arr f i T hf hi
          have hpm7 := hpm7.drewN 1
          have hk7 := hk7.trans (KX.drewN _ 1)
          change PM (World.drew _) _ _ _ _ _ _ _ _ _ _ at hpm7
          change KX X w6 (World.drew _) at hk7
          clear hS1 hS2 c3 c4 p0 p1 p2 f0 f1 f2
          generalize (((w6.setCell ⟨gf, f * 2, none⟩ (.int .i64 (i : Int))).setCell ⟨gf, f * 2 + 1, none⟩ (.int .i64 (T : Int))).setCell ⟨gh, i, none⟩ (.int .i64 (f : Int))).drew = w7 at *
          have HWS := Lib.hid (writes_any hpm7.ma)
          have c0 := cell_of_row _ _ 0 _ _ _ hpm7.pg.row
          have c5 := cell_of_row _ _ 5 _ _ _ hpm7.pg.row
          have c6 := cell_of_row _ _ 6 _ _ _ hpm7.pg.row
          have z5 := frozen_of_row _ _ 5 _ _ hpm7.pg.row
          have z6 := frozen_of_row _ _ 6 _ _ hpm7.pg.row
          unfold prow at c0 c5 c6
          have HPM7 := Lib.hid hpm7
          have HK7 := Lib.hid hk7
          clear hpm7 hk7
          go_wp2_with (go_at_call 33; refine HWS.out.mono ?_; rintro e _ ⟨rfl, rfl⟩)
          go_ret
          obtain ⟨hpm8, hk8⟩ := HPM7.out.row56 T y.wr (T : Int) rfl
          rw [HT.out, HNY.out]
          refine ⟨lf6, rfl, ?_, (((HK4.out.trans HKX.out).trans HK6.out).trans HK7.out).trans hk8⟩
          rw [if_pos rfl]
          unfold putD
          rw [HT.out]
          exact hpm8
        · have HNX : Hid (runC s (pgL f T i l) = (y, q)) := by show _ = _; have := HNX.out; rw [if_neg hq0] at this; exact this
          have hqb : (q != 0) = true := by rw [bne_iff_ne]; exact hq0
          have HQ0 := Lib.hid hq0
          clear hq0
          go_wp2_with fail
          go_ret
          rw [HT.out, HNX.out]
          refine ⟨lf6, rfl, ?_, (HK4.out.trans HKX.out).trans HK6.out⟩
          rw [if_neg HQ0.out]
          exact HPM6.out
  · have HZ := Lib.hid hz
    have HEQ : Hid (runC s (pgL f T i l) = runC s (resL f T 3)) := by show _ = _; unfold pgL; rw [List.append_assoc, HAP.out, if_neg hz]
    obtain ⟨q, hq⟩ : ∃ q, (runC s (resL f T 3)).2 = q := ⟨_, rfl⟩
    have HQ := Lib.hid hq
    rw [hq] at hz
    rw [hq]
    have hqb : (q != 0) = true := by rw [bne_iff_ne]; exact hz
    have HQ0 := Lib.hid hz
    clear hz hq
    go_wp2_with fail
    go_ret
    rw [HT.out, HEQ.out]
    refine ⟨lf3, by rw [HQ.out]; rfl, ?_, HK3.out⟩
    rw [if_neg (by rw [HQ.out]; exact HQ0.out)]
    exact HPM3.out
end
end Go.Proofs.YtiholfpcndjliaaDoor
