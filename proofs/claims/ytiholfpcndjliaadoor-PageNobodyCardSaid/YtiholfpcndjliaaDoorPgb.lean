/-
  Pages in memory: how they lie, what their calls keep; the walks of made, Count, Fixed, Alive, access.
-/
import Derived.Test.YtiholfpcndjliaaDoorPga
import Derived.Test.YtiholfpcndjliaaDoorCeh
import Derived.Test.YtiholfpcndjliaaDoorCin
namespace Go.Proofs.YtiholfpcndjliaaDoor
set_option linter.unusedVariables false
set_option linter.unusedSimpArgs false
open Go.RowKit

/-- All but the blocks X is kept. -/
structure KX (X : Nat → Prop) (w w' : World) : Prop where
  os : w'.os = w.os
  tape : w'.tape = w.tape
  output : w'.output = w.output
  size : w.heap.size ≤ w'.heap.size
  block : ∀ k, k < w.heap.size → ¬ X k → w'.heap[k]? = w.heap[k]?
section
variable {X Y : Nat → Prop} {x y z : World} {b g : Nat}
theorem KX.refl (X : Nat → Prop) (w : World) : KX X w w := ⟨rfl, rfl, rfl, Nat.le_refl _, fun _ _ _ => rfl⟩
theorem KX.trans (h : KX X x y) (k : KX X y z) : KX X x z :=
  ⟨k.os.trans h.os, k.tape.trans h.tape, k.output.trans h.output, Nat.le_trans h.size k.size, fun i hi h1 => (k.block i (Nat.lt_of_lt_of_le hi h.size) h1).trans (h.block i hi h1)⟩
theorem KX.of_below (h : Below x.heap.size x y) : KX X x y := ⟨h.os, h.tape, h.output, h.size, fun k hk _ => h.block k hk⟩
theorem KX.of_kp (h : Kp b g x y) (h1 : X b) (h2 : X g) : KX X x y := ⟨h.os, h.tape, h.output, h.size, fun k hk hx => h.block k hk (fun e => hx (e ▸ h1)) (fun e => hx (e ▸ h2))⟩
theorem KX.drewN (w : World) (n : Nat) : KX X w (w.drewN n) := ⟨rfl, rfl, rfl, Nat.le_refl _, fun _ _ _ => rfl⟩
theorem KX.mono (h : KX X x y) (hm : ∀ k, k < x.heap.size → X k → Y k) : KX Y x y := ⟨h.os, h.tape, h.output, h.size, fun k hk hy => h.block k hk (fun e => hy (hm k hk e))⟩
theorem KX.set (h : KX X x y) (p : Addr) (u : Value) (hp : X p.block) : KX X x (y.setCell p u) :=
  h.trans ⟨rfl, rfl, rfl, by simp [World.setCell], fun k hk h1 => Below.heap_setCell _ _ _ _ (fun e => h1 (e ▸ hp))⟩
theorem KX.cell (h : KX X x y) {p : Addr} (hp : p.block < x.heap.size) (h1 : ¬ X p.block) : y.cell? p = x.cell? p := World.cell?_of_block (w := x) (h.block p.block hp h1)
theorem KX.frozen (h : KX X x y) {p : Addr} (hp : p.block < x.heap.size) (h1 : ¬ X p.block) : y.frozen? p = x.frozen? p := World.frozen?_of_block (w := x) (h.block p.block hp h1)
theorem KX.below {B : Nat} (h : KX X x y) (hX : ∀ k, X k → B ≤ k) (hs : B ≤ x.heap.size) : Below B x y := ⟨h.os, h.tape, h.output, h.size, fun k hk => h.block k (by omega) (fun e => by have := hX k e; omega)⟩
end

/-- What pages keep of the memory: the frames, the homes, the latest turn, the cuts and writes so far. -/
structure PD where
  F : Nat
  P : Nat
  fm : Nat → Fr
  hm : Nat → Int
  tm : Nat
  cu : Nat
  wr : Nat
def prow (b gf gh : Nat) (d : PD) (fx : Int) : Array Value :=
  #[.pointer (some ⟨b, 0, none⟩), .int .i64 (d.cu : Int), .int .i64 fx, .slice (some ⟨gf, 0, none⟩) d.F d.F, .slice (some ⟨gh, 0, none⟩) d.P d.P, .int .i64 (d.tm : Int), .int .i64 (d.wr : Int)]
/-- Pages that Open has made, their record in block pb. -/
structure PG (w : World) (pb b gf gh : Nat) (d : PD) (fx : Int) : Prop where
  row : w.heap[pb]? = some (.cells (prow b gf gh d fx) 103 (0, 0))
  pg : ∀ f, f < d.F → w.cell? ⟨gf, f * 2, none⟩ = some (.int .i64 (d.fm f).pg)
  tn : ∀ f, f < d.F → w.cell? ⟨gf, f * 2 + 1, none⟩ = some (.int .i64 ((d.fm f).tn : Int))
  ho : ∀ j, j < d.P → w.cell? ⟨gh, j, none⟩ = some (.int .i64 (d.hm j))
  ff : ∀ j, w.frozen? ⟨gf, j, none⟩ = false
  fh : ∀ j, w.frozen? ⟨gh, j, none⟩ = false
  n1 : pb ≠ gf
  n2 : pb ≠ gh
  n3 : gf ≠ gh
  l1 : pb < w.heap.size
  l2 : gf < w.heap.size
  l3 : gh < w.heap.size
  f1 : d.F ≤ 5000
  p1 : 1 ≤ d.P
  p2 : d.P < d.F
theorem PG.keep {w w' : World} {pb b gf gh : Nat} {d : PD} {fx : Int} (h : PG w pb b gf gh d fx) (h1 : w'.heap[pb]? = w.heap[pb]?) (h2 : w'.heap[gf]? = w.heap[gf]?) (h3 : w'.heap[gh]? = w.heap[gh]?) (hs : w.heap.size ≤ w'.heap.size) : PG w' pb b gf gh d fx :=
  ⟨h1.trans h.row, fun f hf => (World.cell?_of_block (w := w) h2).trans (h.pg f hf), fun f hf => (World.cell?_of_block (w := w) h2).trans (h.tn f hf), fun f hf => (World.cell?_of_block (w := w) h3).trans (h.ho f hf),
    fun j => (World.frozen?_of_block (w := w) h2).trans (h.ff j), fun j => (World.frozen?_of_block (w := w) h3).trans (h.fh j), h.n1, h.n2, h.n3, Nat.lt_of_lt_of_le h.l1 hs, Nat.lt_of_lt_of_le h.l2 hs, Nat.lt_of_lt_of_le h.l3 hs, h.f1, h.p1, h.p2⟩
theorem PG.on {w w' : World} {pb b gf gh : Nat} {d : PD} {fx : Int} (h : PG w pb b gf gh d fx) (hb : Below w.heap.size w w') : PG w' pb b gf gh d fx := h.keep (hb.block _ h.l1) (hb.block _ h.l2) (hb.block _ h.l3) hb.size
/-- Pages and their memory. -/
structure PM (w : World) (X : Nat → Prop) (pb b g gf gh : Nat) (s : St) (lf : Nat) (d : PD) (fx : Int) : Prop where
  ma : MA w b g s lf
  pg : PG w pb b gf gh d fx
  x1 : X pb
  x2 : X b
  x3 : X g
  x4 : X gf
  x5 : X gh
  d1 : pb ≠ b
  d2 : pb ≠ g
  d3 : gf ≠ b
  d4 : gf ≠ g
  d5 : gh ≠ b
  d6 : gh ≠ g
  tb : Tb w
  y0 : ¬ X 0
  y1 : ¬ X 1
theorem Tb.kx {w w' : World} {X : Nat → Prop} (h : Tb w) (hk : KX X w w') (h0 : ¬ X 0) (h1 : ¬ X 1) : Tb w' := by
  have hs := h.size
  obtain ⟨⟨t, fr, a1⟩, t', fr', a2⟩ := h
  exact ⟨⟨t, fr, (hk.block 1 (by omega) h1).trans a1⟩, t', fr', (hk.block 0 (by omega) h0).trans a2⟩
section
variable {w w' : World} {X : Nat → Prop} {pb b g gf gh lf : Nat} {s : St} {d : PD} {fx : Int}
theorem PM.on (h : PM w X pb b g gf gh s lf d fx) (hb : Below w.heap.size w w') : PM w' X pb b g gf gh s lf d fx := ⟨h.ma.on hb, h.pg.on hb, h.x1, h.x2, h.x3, h.x4, h.x5, h.d1, h.d2, h.d3, h.d4, h.d5, h.d6, h.tb.on hb, h.y0, h.y1⟩
theorem PM.drewN (h : PM w X pb b g gf gh s lf d fx) (n : Nat) : PM (w.drewN n) X pb b g gf gh s lf d fx := h.on (drewN_below _ _ _)
/-- The memory has turned, the pages have not. -/
theorem PM.mem {lf' : Nat} {s' : St} (h : PM w X pb b g gf gh s lf d fx) (hm : MA w' b g s' lf') (hk : Kp b g w w') : PM w' X pb b g gf gh s' lf' d fx :=
  ⟨hm, h.pg.keep (hk.block _ h.pg.l1 h.d1 h.d2) (hk.block _ h.pg.l2 h.d3 h.d4) (hk.block _ h.pg.l3 h.d5 h.d6) hk.size, h.x1, h.x2, h.x3, h.x4, h.x5, h.d1, h.d2, h.d3, h.d4, h.d5, h.d6, h.tb.kx (KX.of_kp hk h.x2 h.x3) h.y0 h.y1, h.y0, h.y1⟩

theorem pmade_any (h : PG w pb b gf gh d fx) : Calls Tryd.prog 54 #[.pointer (some ⟨pb, 0, none⟩)] w fun e w' => e = .returned (.bool true) ∧ w' = w := by
  have c0 := cell_of_row _ _ 0 _ _ _ h.row
  clear h
  unfold prow at c0
  go_enter Tryd.func54, Tryd.ntmps54
  go_wp2
  go_ret
  exact ⟨rfl, rfl⟩
theorem pmade_nil (w : World) : Calls Tryd.prog 54 #[.pointer none] w fun e w' => e = .returned (.bool false) ∧ w' = w := by
  go_enter Tryd.func54, Tryd.ntmps54
  go_wp2
  go_ret
  exact ⟨rfl, rfl⟩
theorem pcount_any (h : PG w pb b gf gh d fx) : Calls Tryd.prog 30 #[.pointer (some ⟨pb, 0, none⟩)] w fun e w' => e = .returned (.int .i64 (d.P : Int)) ∧ w' = w := by
  have HM := Lib.hid (pmade_any h)
  have c0 := cell_of_row _ _ 4 _ _ _ h.row
  clear h
  unfold prow at c0
  go_enter Tryd.func30, Tryd.ntmps30
  go_wp2_with (go_at_call 54; refine HM.out.mono ?_; rintro e w' ⟨rfl, rfl⟩)
  go_ret
  exact ⟨rfl, rfl⟩
theorem pfixed_any (h : PG w pb b gf gh d fx) : Calls Tryd.prog 24 #[.pointer (some ⟨pb, 0, none⟩)] w fun e w' => e = .returned (.int .i64 fx) ∧ w' = w := by
  have HM := Lib.hid (pmade_any h)
  have c0 := cell_of_row _ _ 2 _ _ _ h.row
  clear h
  unfold prow at c0
  go_enter Tryd.func24, Tryd.ntmps24
  go_wp2_with (go_at_call 54; refine HM.out.mono ?_; rintro e w' ⟨rfl, rfl⟩)
  go_ret
  exact ⟨rfl, rfl⟩
theorem palive_any (h : PM w X pb b g gf gh s lf d fx) : Calls Tryd.prog 25 #[.pointer (some ⟨pb, 0, none⟩)] w fun e w' => e = .returned (.bool (s.cu == d.cu)) ∧ ∃ n, w' = w.drewN n := by
  have HM := Lib.hid (fun n => pmade_any (h.drewN n).pg)
  have HC := Lib.hid (fun n => cuts_any (h.drewN n).ma)
  have c0 := cell_of_row _ _ 0 _ _ _ h.pg.row
  have c1 := cell_of_row _ _ 1 _ _ _ h.pg.row
  clear h
  unfold prow at c0 c1
  generalize s.cu = x at *
  generalize d.cu = y at *
  go_enter Tryd.func25, Tryd.ntmps25
  go_wp2
  go_quiet ((first | (go_at_call 54; exact Calls.quiet_of_same (HM.out _)) | (go_at_call 52; exact Calls.quiet_of_same (HC.out _))))
  go_wp2
  go_ret
  exact ⟨ret_b (by rw [Bool.eq_iff_iff, beq_iff_eq, beq_iff_eq]; omega), _, rfl⟩

/-- The error of an access to page i. -/
def pacE (s : St) (d : PD) (i : Int) : Int := if s.cu ≠ d.cu then 7 else if 0 ≤ i ∧ i < (d.P : Int) then 0 else 2
theorem pacc_any (h : PM w X pb b g gf gh s lf d fx) (hw : s.cu = d.cu → s.wr = d.wr) (i : Int) :
    Calls Tryd.prog 55 #[.pointer (some ⟨pb, 0, none⟩), .int .i64 i] w fun e w' => e = .returned (.int .i64 (pacE s d i)) ∧ ∃ n, w' = w.drewN n := by
  have HA := Lib.hid (palive_any h)
  have HW := Lib.hid (fun n m => writes_any ((h.drewN n).drewN m).ma)
  have c0 := cell_of_row _ _ 0 _ _ _ h.pg.row
  have c4 := cell_of_row _ _ 4 _ _ _ h.pg.row
  have c6 := cell_of_row _ _ 6 _ _ _ h.pg.row
  have HE : Hid (pacE s d i = if s.cu ≠ d.cu then 7 else if 0 ≤ i ∧ i < (d.P : Int) then 0 else 2) := rfl
  have hp := h.pg.p2
  have hq := h.pg.f1
  clear h
  unfold prow at c0 c4 c6
  generalize pacE s d i = r at *
  by_cases hc : s.cu = d.cu
  · have hww := hw hc
    rw [hww] at HW
    rw [if_neg (by simpa using hc)] at HE
    have hcb : (s.cu == d.cu) = true := by simpa using hc
    rw [hcb] at HA
    clear hw hc hww hcb
    generalize d.wr = z at *
    by_cases h0 : i < 0
    · rw [if_neg (by omega)] at HE
      go_enter Tryd.func55, Tryd.ntmps55
      go_wp2_with (go_at_call 25; refine HA.out.mono ?_; rintro e w' ⟨rfl, n, rfl⟩)
      go_ret
      exact ⟨ret_i HE.out.symm, _, rfl⟩
    · by_cases h1 : (d.P : Int) ≤ i
      · rw [if_neg (by omega)] at HE
        go_enter Tryd.func55, Tryd.ntmps55
        go_wp2_with (go_at_call 25; refine HA.out.mono ?_; rintro e w' ⟨rfl, n, rfl⟩)
        go_ret
        exact ⟨ret_i HE.out.symm, _, rfl⟩
      · rw [if_pos (by omega)] at HE
        go_enter Tryd.func55, Tryd.ntmps55
        go_wp2_with fail
        refine HA.out.mono ?_
        rintro e w1 ⟨rfl, n, hn⟩
        have d0 : w1.cell? ⟨pb, 0, none⟩ = some (.pointer (some ⟨b, 0, none⟩)) := by rw [hn]; exact c0
        have d4 : w1.cell? ⟨pb, 4, none⟩ = some (.slice (some ⟨gh, 0, none⟩) d.P d.P) := by rw [hn]; exact c4
        have d6 : w1.cell? ⟨pb, 6, none⟩ = some (.int .i64 (z : Int)) := by rw [hn]; exact c6
        have HW1 := HW.out n
        rw [← hn] at HW1
        have HW1 := Lib.hid HW1
        have HN := Lib.hid hn
        clear hn c0 c4 c6 HW HA
        go_wp2_with fail
        go_quiet ((go_at_call 33; exact Calls.quiet_of_same (HW1.out _)))
        go_wp2
        go_ret
        exact ⟨ret_i HE.out.symm, by rw [HN.out, World.drewN_drewN]; exact ⟨_, rfl⟩⟩
  · rw [if_pos hc] at HE
    have hcb : (s.cu == d.cu) = false := by simpa using hc
    rw [hcb] at HA
    clear hw hc hcb
    go_enter Tryd.func55, Tryd.ntmps55
    go_wp2_with (go_at_call 25; refine HA.out.mono ?_; rintro e w' ⟨rfl, n, rfl⟩)
    go_ret
    exact ⟨ret_i HE.out.symm, _, rfl⟩
end
end Go.Proofs.YtiholfpcndjliaaDoor
