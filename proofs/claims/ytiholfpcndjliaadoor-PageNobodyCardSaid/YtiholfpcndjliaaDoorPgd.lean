/-
  The walk of body.
-/
import Derived.Test.YtiholfpcndjliaaDoorPgc
namespace Go.Proofs.YtiholfpcndjliaaDoor
set_option linter.unusedVariables false
set_option linter.unusedSimpArgs false
open Go.RowKit

section
variable {w w' : World} {X : Nat → Prop} {pb b g gf gh lf : Nat} {s : St} {d : PD} {fx : Int}
/-- The first k words of a body, the others 0. -/
def bodyK (ws : List Nat) (f k : Nat) : List Nat := (List.range 16).map fun j => if j < k then ws.getD (f * 19 + 3 + j) 0 else 0
theorem bodyK_len (ws : List Nat) (f k : Nat) : (bodyK ws f k).length = 16 := by simp [bodyK]
theorem bodyK_zero (ws : List Nat) (f : Nat) : bodyK ws f 0 = List.replicate 16 0 := by simp [bodyK]; rfl
theorem bodyK_all (ws : List Nat) (f : Nat) : bodyK ws f 16 = bodyW ws f := by
  unfold bodyK bodyW
  apply List.map_congr_left
  intro j hj
  rw [if_pos (List.mem_range.1 hj)]
theorem bodyK_set (ws : List Nat) (f k : Nat) (hk : k < 16) : (bodyK ws f k).set k (ws.getD (f * 19 + 3 + k) 0) = bodyK ws f (k + 1) := by
  apply List.ext_getElem (by simp [bodyK])
  intro i h1 h2
  have hi : i < 16 := by rw [bodyK_len] at h2; exact h2
  by_cases e : i = k
  · subst e
    rw [List.getElem_set_self]
    simp [bodyK]
  · rw [List.getElem_set_ne (Ne.symm e)]
    simp only [bodyK, List.getElem_map, List.getElem_range]
    by_cases h : i < k
    · rw [if_pos h, if_pos (by omega)]
    · rw [if_neg h, if_neg (by omega)]
/-- make([]uint32, n). -/
theorem wpList_mkW {ops : Array Oper} {rest : List Oper} {o : Oper} {a : Act} {w : World} {Q : Exit → Act → World → Prop} (hgd : o.guard = none) (l c : Operand) (ho : o.op = Op.makeSlice 57 l c)
    (kl kc : IntKind) (L C : Int) (n : Nat) (hl : a.eval l = .int kl L) (hc : a.eval c = .int kc C) (hL : L = (n : Int)) (hC : C = (n : Int)) (hn : n ≤ 100000000)
    (h : ∀ w', OW w' w.heap.size (.slice (some ⟨w.heap.size, 0, none⟩) n n) (List.replicate n 0) → Below w.heap.size w w' → wpList Tryd.prog ops Q rest (a.put o.dst (.slice (some ⟨w.heap.size, 0, none⟩) n n)) w') : wpList Tryd.prog ops Q (o :: rest) a w := by
  obtain ⟨i0, hi0, hz0, hz1, hz2⟩ := info_parts info22
  refine wpList_make_full w hgd l c 57 ho w.heap.size 59 i0 (.int .u32 0) 1 Tryd.underlying57 hi0 hz0 hz1 kl kc L C n hl hc hL hC (by rw [hz2]; omega) (by simp only [maxLen]; omega) (Nat.le_refl _) fun w' h1 h2 => h w' ?_ ?_
  · unfold OW
    rw [List.length_replicate]
    have e : (madeCells (Value.int .u32 0).cells (n * 1)).toList = (List.replicate n (0 : Nat)).map wv := by
      show (madeCells #[Value.int .u32 0] (n * 1)).toList = _
      rw [toList_madeCells_one, Nat.mul_one, List.map_replicate]
      rfl
    rw [← e]
    exact h1
  · exact (Below.refl _ _).grown h2 (Nat.le_refl _) (fun k hk => by cases hk)

theorem bodyW_lt {ws : List Nat} (hF : ∀ a, ws.getD a 0 < 4294967296) (f : Nat) : ∀ x ∈ bodyW ws f, x < 4294967296 := by
  intro x hx
  obtain ⟨j, _, rfl⟩ := List.mem_map.1 hx
  exact hF _
theorem unp_body (ws : List Nat) (f : Nat) : unpE (bodyW ws f) 48 = (if badB (bodyW ws f) 16 = true then 9 else 0) := by
  unfold unpE
  rw [bodyW_len, if_neg (by show ¬ ((48 : Int) < 0 ∨ (16 : Int) ≠ wrdN 48); unfold wrdN; omega)]
theorem below_kx2 {B : Nat} {X : Nat → Prop} {x y : World} (h : Below B x y) (hB : x.heap.size = B) : KX X x y := ⟨h.os, h.tape, h.output, h.size, fun k hk _ => h.block k (by omega)⟩
theorem OB.off {w : World} {base : Nat} {v : Value} {l : List UInt8} (h : OB w base v l) {p : Addr} (u : Value) (hp : p.block < base) : OB (w.setCell p u) base v l := by
  obtain ⟨h1, h2⟩ := h
  refine ⟨h1, ?_⟩
  rcases h2 with h2 | ⟨g, cap, cur, hv, hg, hh, r⟩
  · exact .inl h2
  · exact .inr ⟨g, cap, cur, hv, hg, (set_blk (by omega)).trans hh, r⟩
theorem OB.more {w : World} {B base : Nat} {v : Value} {l : List UInt8} (h : OB w base v l) (hB : B ≤ base) : OB w B v l := by
  obtain ⟨h1, h2⟩ := h
  refine ⟨h1, ?_⟩
  rcases h2 with h2 | ⟨g, cap, cur, hv, hg, hh, r⟩
  · exact .inl h2
  · exact .inr ⟨g, cap, cur, hv, by omega, hh, r⟩
theorem fixK_zero (l : List Nat) : ∀ k, (∀ j, j < k → decH (l.getD j 0) = 0) → fixK l k = 0
  | 0, _ => rfl
  | k + 1, h => by
    show fixK l k + (if decH (l.getD k 0) = 1 then 1 else 0) = 0
    rw [fixK_zero l k fun j hj => h j (by omega), h k (by omega)]
    rfl
theorem bodyR_mk {f : Nat} {w' : World} {y : Int} {v : Value} {e9 : Int} (h1 : unpE (bodyW s.ws f) 48 = e9) (h2 : OB w' w.heap.size v (unpV (bodyW s.ws f) 48)) (hp : PM w' X pb b g gf gh s lf d y) (hk : KX X w w')
    (hy : unpF (bodyW s.ws f) 48 = 0 → fx = 0 → y = 0) : ∃ v' fx', Ending.returned (.tuple #[v, .int .i64 e9]) = .returned (.tuple #[v', .int .i64 (if badB (bodyW s.ws f) 16 = true then 9 else 0)]) ∧ OB w' w.heap.size v' (if badB (bodyW s.ws f) 16 = true then [] else bytesW s.ws f) ∧
    PM w' X pb b g gf gh s lf d fx' ∧ KX X w w' ∧ ((∀ k, k < 16 → decH (s.ws.getD (f * 19 + 3 + k) 0) = 0) → fx = 0 → fx' = 0) := by
  rw [unp_body] at h1
  refine ⟨v, y, by rw [h1], ?_, hp, hk, fun h => hy ?_⟩
  · unfold unpV at h2
    rw [unp_body, bodyW_len] at h2
    cases hb : badB (bodyW s.ws f) 16
    · rw [hb] at h2
      have e : ((unpK (bodyW s.ws f) 16).take ((48 : Int).toNat)) = bytesW s.ws f := List.take_of_length_le (by rw [unpK_len]; decide)
      have h3 : OB w' w.heap.size v ((unpK (bodyW s.ws f) 16).take ((48 : Int).toNat)) := h2
      rw [e] at h3
      exact h3
    · rw [hb] at h2
      exact h2
  · unfold unpF
    split
    · rw [bodyW_len]
      exact fixK_zero _ _ fun j hj => by rw [bodyW_at _ _ _ hj]; exact h j hj
    · rfl
/-- What body returns. -/
def BodyR (X : Nat → Prop) (pb b g gf gh lf : Nat) (s : St) (d : PD) (fx : Int) (f : Nat) (w : World) (e : Ending) (w' : World) : Prop :=
  ∃ v fx', e = .returned (.tuple #[v, .int .i64 (if badB (bodyW s.ws f) 16 = true then 9 else 0)]) ∧ OB w' w.heap.size v (if badB (bodyW s.ws f) 16 = true then [] else bytesW s.ws f) ∧
    PM w' X pb b g gf gh s lf d fx' ∧ KX X w w' ∧ ((∀ k, k < 16 → decH (s.ws.getD (f * 19 + 3 + k) 0) = 0) → fx = 0 → fx' = 0)
set_option maxRecDepth 100000 in
set_option maxHeartbeats 1600000 in
theorem pbody_any2 (h : PM w X pb b g gf gh s lf d fx) (hX : ∀ k, X k → k < w.heap.size) (hF : ∀ a, s.ws.getD a 0 < 4294967296) (hon : s.on = true) (f : Nat) (hf : f * 19 + 19 ≤ s.ws.length) :
    Calls Tryd.prog 58 #[.pointer (some ⟨pb, 0, none⟩), .int .i64 (f : Int)] w (BodyR X pb b g gf gh lf s d fx f w) := by
  have hlen := h.ma.n2
  have HF := Lib.hid hF
  have HXX := Lib.hid hX
  have HON := Lib.hid hon
  have HPM0 := Lib.hid h
  clear h hF hX hon
  go_enter Tryd.func58, Tryd.ntmps58
  go_wp2_with (at_make; refine wpList_mkW rfl _ _ rfl .i64 .i64 _ _ 16 rfl rfl rfl rfl (by omega) ?_; intro w1 hown1 hb1)
  have HPM1 := Lib.hid (HPM0.out.on hb1)
  have HB1 := Lib.hid hb1
  obtain ⟨R, hR⟩ : ∃ R, w.heap.size = R := ⟨_, rfl⟩
  have HRE := Lib.hid hR
  rw [hR] at hown1
  rw [← bodyK_zero s.ws f] at hown1
  have HOW1 := Lib.hid hown1
  rw [hR]
  clear hR hb1 hown1
  go_loopw [16] (fun i wr => ∃ (k : Nat), k ≤ 16 ∧ i = .int .i64 (k : Int) ∧ PM wr X pb b g gf gh s lf d fx ∧ Below R w wr ∧ OW wr R (.slice (some ⟨R, 0, none⟩) 16 16) (bodyK s.ws f k)) (fun i _ => 16 - (intOf i).toNat)
  case atStart => exact ⟨0, by omega, rfl, HPM1.out, by rw [← HRE.out]; exact HB1.out, HOW1.out⟩
  case round =>
    obtain ⟨k, hk, rfl, hpm, hbel, how⟩ := hrel
    by_cases h3 : k < 16
    · have HRD := Lib.hid (fun z hz => read_in hpm.ma HON.out z (f * 19 + 3 + k) hz (by omega))
      have c0 := cell_of_row _ _ 0 _ _ _ hpm.pg.row
      unfold prow at c0
      have hdi := how.cellAt k (by rw [bodyK_len]; exact h3)
      have hdz := how.frozenAt k
      have HPM := Lib.hid hpm
      have HB := Lib.hid hbel
      have HS := Lib.hid (bodyK_set s.ws f k h3)
      have HST := Lib.hid (fun z hz => how.stored k (s.ws.getD (f * 19 + 3 + k) 0) z hz)
      have hki : (k : Int) < 16 := by omega
      obtain ⟨x, hx⟩ : ∃ x, s.ws.getD (f * 19 + 3 + k) 0 = x := ⟨_, rfl⟩
      rw [hx] at HRD HS HST
      clear hpm hbel how hx
      go_wp2_with (go_at_call 82; refine (HRD.out _ (by omega)).mono ?_; rintro e _ ⟨rfl, rfl⟩)
      go_roundw
      case rel =>
        refine ⟨k + 1, by omega, by go_num, HPM.out.off _ (fun e => by have := HXX.out R e; have := HRE.out; omega) (by have := HPM0.out.tb.size; have := HRE.out; show R ≠ 0; omega) (by have := HPM0.out.tb.size; have := HRE.out; show R ≠ 1; omega), HB.out.setCell (p := ⟨R, k, none⟩) (Nat.le_refl R) _, ?_⟩
        rw [← HS.out]
        exact HST.out _ rfl
      case measure => simp [intOf]; omega
    · obtain rfl : k = 16 := by omega
      rw [bodyK_all] at how
      have HU := punp_any (bodyW s.ws f) 48 (.slice (some ⟨R, 0, none⟩) 16 16) wr how.sl (bodyW_lt HF.out f) (by rw [bodyW_len]; omega) (by omega) hpm.tb
      have HPM := Lib.hid hpm
      have HB := Lib.hid hbel
      have HFX := Lib.hid (fixK_le (bodyW s.ws f) (bodyW s.ws f).length)
      unfold UnpR at HU
      have HE := Lib.hid (rfl : unpE (bodyW s.ws f) 48 = unpE (bodyW s.ws f) 48)
      have HK := Lib.hid (rfl : unpF (bodyW s.ws f) 48 = unpF (bodyW s.ws f) 48)
      have HMK := Lib.hid (fun (w' : World) (y : Int) (v : Value) => bodyR_mk (w := w) (X := X) (pb := pb) (b := b) (g := g) (gf := gf) (gh := gh) (lf := lf) (s := s) (d := d) (fx := fx) (f := f) (w' := w') (y := y) (v := v) rfl)
      generalize unpE (bodyW s.ws f) 48 = q at *
      generalize unpF (bodyW s.ws f) 48 = u at *
      have HU := Lib.hid HU
      clear hpm hbel how
      go_wp2_with fail
      refine HU.out.mono ?_
      rintro e w2 ⟨v, rfl, hv, hb2⟩
      have hpm2 := HPM.out.on hb2
      have c2 := cell_of_row _ _ 2 _ _ _ hpm2.pg.row
      have z2 := frozen_of_row _ _ 2 _ _ hpm2.pg.row
      unfold prow at c2
      have HPM2 := Lib.hid hpm2
      have HV := Lib.hid hv
      have HB2 := Lib.hid hb2
      clear hpm2 hv hb2
      go_wp2_with fail
      go_ret2
      have hRE := HRE.out
      have hpb : pb < w.heap.size := HXX.out _ HPM.out.x1
      refine HMK.out _ _ _ ((HV.out.off _ (show pb < wr.heap.size by exact HPM.out.pg.l1)).more (by have := HB.out.size; exact this)) (HPM2.out.fix _) ((((below_kx2 HB.out hRE).trans (KX.of_below HB2.out))).set _ _ HPM.out.x1) (fun e1 e2 => by rw [e1, e2]; simp [wrap64])
end
end Go.Proofs.YtiholfpcndjliaaDoor
