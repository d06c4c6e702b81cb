/-
  Write and Read of pages that are alive, without a cut; the walk of works.
-/
import Derived.Test.YtiholfpcndjliaaDoorPgo
namespace Go.Proofs.YtiholfpcndjliaaDoor
set_option linter.unusedVariables false
set_option linter.unusedSimpArgs false
open Go.RowKit

/-- Bytes that lie off the blocks X. -/
def SLx (X : Nat → Prop) (w : World) (v : Value) (l : List UInt8) : Prop :=
  ∃ (A : Option Addr) (c : Nat), v = .slice A l.length c ∧ l.length ≤ c ∧ c ≤ maxLen ∧ (0 < l.length → ∃ b o, A = some ⟨b, o, none⟩ ∧ b < w.heap.size ∧ ¬ X b ∧ ∀ k, k < l.length → w.cell? ⟨b, o + k, none⟩ = some (.int .u8 ((l.getD k 0).toNat : Int)))
section
variable {X Y : Nat → Prop} {w w' : World} {v : Value} {l : List UInt8}
theorem SLx.sl (h : SLx X w v l) : SL w w.heap.size v l := by
  obtain ⟨A, c, h0, h1, h2, h3⟩ := h
  exact ⟨A, c, h0, h1, h2, fun hp => by obtain ⟨b, o, e, hb, _, hc⟩ := h3 hp; exact ⟨b, o, e, hb, hc⟩⟩
theorem SLx.kx (h : SLx X w v l) (hk : KX X w w') : SLx X w' v l := by
  obtain ⟨A, c, h0, h1, h2, h3⟩ := h
  refine ⟨A, c, h0, h1, h2, fun hp => ?_⟩
  obtain ⟨b, o, e, hb, hx, hc⟩ := h3 hp
  exact ⟨b, o, e, Nat.lt_of_lt_of_le hb hk.size, hx, fun k hk' => (hk.cell (p := ⟨b, o + k, none⟩) hb hx).trans (hc k hk')⟩
theorem SLx.mono (h : SLx X w v l) (hm : ∀ k, k < w.heap.size → Y k → X k) : SLx Y w v l := by
  obtain ⟨A, c, h0, h1, h2, h3⟩ := h
  refine ⟨A, c, h0, h1, h2, fun hp => ?_⟩
  obtain ⟨b, o, e, hb, hx, hc⟩ := h3 hp
  exact ⟨b, o, e, hb, fun hy => hx (hm b hb hy), hc⟩
theorem SLx.of_ob {base : Nat} (h : OB w base v l) (hX : ∀ k, X k → k < base) : SLx X w v l := by
  rcases h.2 with ⟨rfl, h0⟩ | ⟨g, cap, cur, rfl, hb, hg, hn, hm, hs, ht⟩
  · exact ⟨none, 0, by rw [h0], by omega, Nat.zero_le _, fun hp => absurd hp (by omega)⟩
  · have hsl := h.sl
    refine ⟨some ⟨g, 0, none⟩, cap, rfl, hn, hm, fun hp => ⟨g, 0, rfl, (Array.getElem?_eq_some_iff.1 hg).1, fun e => by have := hX g e; omega, fun k hk => ?_⟩⟩
    have := World.ownsRow.cellAt (w := w) (base := base) (e := 5) (size := 1) (g := g) (n := l.length) (cap := cap) (xs := l.map bv) h (0 + k) (by omega)
    rw [this, Nat.zero_add, map_bv_get l k hk]
theorem SLx.of_sl {B : Nat} (h : SL w B v l) (hB : B ≤ w.heap.size) (hX : ∀ k, X k → B ≤ k) : SLx X w v l := by
  obtain ⟨A, c, h0, h1, h2, h3⟩ := h
  exact ⟨A, c, h0, h1, h2, fun hp => by obtain ⟨b, o, e, hb, hc⟩ := h3 hp; exact ⟨b, o, e, by omega, fun hx => by have := hX b hx; omega, hc⟩⟩
end

/-- Pages that are alive, and agree with their memory. -/
structure Ps (w : World) (X : Nat → Prop) (pb b g gf gh : Nat) (s : St) (lf : Nat) (d : PD) (fx : Int) (N K : Nat) : Prop where
  pm : PM w X pb b g gf gh s lf d fx
  run : Run s N
  iv : Iv s.ws K
  sy : Syn d s.ws
  cu : s.cu = d.cu
  wr : s.wr = d.wr
  xl : ∀ k, X k → k < w.heap.size
section
variable {w w' : World} {X : Nat → Prop} {pb b g gf gh lf N K : Nat} {s : St} {d : PD} {fx : Int}
theorem Ps.on (h : Ps w X pb b g gf gh s lf d fx N K) (hb : Below w.heap.size w w') : Ps w' X pb b g gf gh s lf d fx N K := ⟨h.pm.on hb, h.run, h.iv, h.sy, h.cu, h.wr, fun k hk => Nat.lt_of_lt_of_le (h.xl k hk) hb.size⟩
theorem Ps.P (h : Ps w X pb b g gf gh s lf d fx N K) : d.P = s.ws.length / 24 := h.sy.P
theorem Ps.pac (h : Ps w X pb b g gf gh s lf d fx N K) (i : Int) : pacE s d i = if 0 ≤ i ∧ i < ((s.ws.length / 24 : Nat) : Int) then 0 else 2 := by
  unfold pacE; rw [if_neg (by simpa using h.cu), h.P]
def wE (n : Nat) (i : Int) (l : List UInt8) : Int := if l.length ≠ 48 then 1 else if 0 ≤ i ∧ i < ((n / 24 : Nat) : Int) then 0 else 2
def LwR (X : Nat → Prop) (pb b g gf gh : Nat) (s : St) (fx : Int) (N K : Nat) (i : Int) (l : List UInt8) (w : World) (e : Ending) (w' : World) : Prop :=
  ∃ s' d' lf' fx', e = .returned (.int .i64 (wE s.ws.length i l)) ∧ Ps w' X pb b g gf gh s' lf' d' fx' (N + 40) (K + 2) ∧ KX X w w' ∧ s'.cut = none ∧ s'.cu = s.cu ∧ s'.ws.length = s.ws.length ∧ (ExW s.ws → ExW s'.ws) ∧ (ExW s.ws → fx = 0 → fx' = 0) ∧
    ∀ j, j < s.ws.length / 24 → pageW s'.ws j = if wE s.ws.length i l = 0 ∧ (j : Int) = i then l else pageW s.ws j
theorem lwrite_any (h : Ps w X pb b g gf gh s lf d fx N K) (hN : N + 40 < 1000000) (hK : K + 2 < 16777216) (hcut : s.cut = none) (i : Int) (v : Value) (l : List UInt8) (hv : SLx X w v l) :
    Calls Tryd.prog 19 #[.pointer (some ⟨pb, 0, none⟩), .int .i64 i, v] w (LwR X pb b g gf gh s fx N K i l w) := by
  refine (pwrite_any h.pm h.run.fine hN (fun _ => ⟨h.wr, h.iv.okd h.sy h.run.on (by omega)⟩) (by have := h.sy.tmle h.iv; omega) h.xl h.sy.F i v l hv.sl (fun w2 hk => (hv.kx hk).sl)).mono ?_
  rintro e w2 ⟨lf2, y, rfl, hpm, hk, hy⟩
  have hpa := h.pac i
  by_cases hl : l.length ≠ 48
  · have e1 : wrtM s d i l = (s, d, 1) := by unfold wrtM; rw [if_pos hl]
    have e2 : wE s.ws.length i l = 1 := by unfold wE; rw [if_pos hl]
    rw [e1] at hpm
    exact ⟨s, d, lf2, y, by rw [e1, e2], ⟨hpm, h.run.more (by omega), h.iv.more (by omega), h.sy, h.cu, h.wr, fun k hk' => Nat.lt_of_lt_of_le (h.xl k hk') hk.size⟩, hk, hcut, rfl, rfl, fun hx => hx, fun _ h0 => hy (fun hc => absurd hc.1 hl) h0, fun j hj => by rw [e2, if_neg (by omega)]⟩
  · by_cases hi : 0 ≤ i ∧ i < ((s.ws.length / 24 : Nat) : Int)
    · rw [if_pos hi] at hpa
      obtain ⟨j, rfl⟩ : ∃ j : Nat, i = j := ⟨i.toNat, by omega⟩
      have hl48 : l.length = 48 := by omega
      have e1 : wrtM s d (j : Int) l = wrM s d j l := by unfold wrtM; rw [if_neg hl, if_neg (by rw [hpa]; simp), Int.toNat_natCast]
      have e2 : wE s.ws.length (j : Int) l = 0 := by unfold wE; rw [if_neg hl, if_pos hi]
      rw [e1] at hpm
      rcases wr_math (i := j) (l := l) h.run hN h.iv h.sy (by omega) hl48 hK with m | m
      · have hex : ExW s.ws → fx = 0 → y = 0 := fun hx h0 => hy (fun _ => by
          rw [Int.toNat_natCast]
          rcases put_math (i := j) (l := l) h.run (by omega) h.iv h.sy (by omega) hl48 (by omega) with p | p
          · exact (p.ex hx).b
          · exact absurd hcut p.cut) h0
        refine ⟨(wrM s d j l).1, (wrM s d j l).2.1, lf2, y, by rw [e1, e2, m.e], ⟨hpm, m.run, m.iv, m.sy, by rw [m.cu, h.cu, m.dcu], m.wr.symm, fun k hk' => Nat.lt_of_lt_of_le (h.xl k hk') hk.size⟩, hk, m.cut hcut, m.cu, m.len, m.ex, hex, fun k hk' => ?_⟩
        rw [m.pg k hk', e2]
        by_cases e : k = j
        · subst e; rw [if_pos rfl, if_pos ⟨rfl, rfl⟩]
        · rw [if_neg e, if_neg (by omega)]
      · exact absurd hcut m.cut
    · rw [if_neg hi] at hpa
      have e1 : wrtM s d i l = (s, d, 2) := by unfold wrtM; rw [if_neg hl, if_pos (by rw [hpa]; omega), hpa]
      have e2 : wE s.ws.length i l = 2 := by unfold wE; rw [if_neg hl, if_neg hi]
      rw [e1] at hpm
      exact ⟨s, d, lf2, y, by rw [e1, e2], ⟨hpm, h.run.more (by omega), h.iv.more (by omega), h.sy, h.cu, h.wr, fun k hk' => Nat.lt_of_lt_of_le (h.xl k hk') hk.size⟩, hk, hcut, rfl, rfl, fun hx => hx, fun _ h0 => hy (fun hc => absurd hc.2 (by rw [hpa]; omega)) h0, fun j hj => by rw [e2, if_neg (by omega)]⟩
def rE (n : Nat) (i : Int) : Int := if 0 ≤ i ∧ i < ((n / 24 : Nat) : Int) then 0 else 2
def LrR (X : Nat → Prop) (pb b g gf gh lf : Nat) (s : St) (d : PD) (fx : Int) (N K : Nat) (i : Int) (w : World) (e : Ending) (w' : World) : Prop :=
  ∃ v fx', e = .returned (.tuple #[v, .int .i64 (rE s.ws.length i)]) ∧ OB w' w.heap.size v (if rE s.ws.length i = 0 then pageW s.ws i.toNat else []) ∧ Ps w' X pb b g gf gh s lf d fx' N K ∧ KX X w w' ∧ (ExW s.ws → fx = 0 → fx' = 0)
theorem dpage_eq {d : PD} {ws : List Nat} (h : Syn d ws) {j : Nat} (hj : j < ws.length / 24) : dpage d ws j = pageW ws j := by
  unfold dpage pageW
  rw [h.hm j (by rw [h.P]; exact hj), h.F]
theorem Syn.hr {d : PD} {ws : List Nat} (h : Syn d ws) : ∀ j : Nat, j < d.P → d.hm j = -1 ∨ ∃ m : Nat, m * 19 + 19 ≤ ws.length ∧ d.hm j = m := fun j hj => by
  rw [h.hm j hj]
  rcases homeR_range (frM ws) (j : Int) d.F with e | ⟨m, hm, e, _⟩
  · exact .inl e
  · exact .inr ⟨m, by rw [h.F] at hm; omega, e⟩
theorem lread_any (h : Ps w X pb b g gf gh s lf d fx N K) (i : Int) : Calls Tryd.prog 22 #[.pointer (some ⟨pb, 0, none⟩), .int .i64 i] w (LrR X pb b g gf gh lf s d fx N K i w) := by
  refine (pread_any h.pm (fun _ => ⟨h.wr, h.run.on⟩) h.xl h.run.fine.ws h.sy.hr h.sy.F i).mono ?_
  rintro e w2 ⟨v, y, rfl, hv, hpm, hk, hy⟩
  have hpa := h.pac i
  have hE : rdE s d i = rE s.ws.length i := by
    unfold rdE rE
    by_cases hi : 0 ≤ i ∧ i < ((s.ws.length / 24 : Nat) : Int)
    · rw [if_pos hi] at hpa
      rw [if_neg (by rw [hpa]; simp), if_pos hi]
      split
      · rfl
      · rw [badB_no h.iv.ok _ 16 (Nat.le_refl _)]; rfl
    · rw [if_neg hi] at hpa
      rw [if_pos (by rw [hpa]; omega), if_neg hi, hpa]
  rw [hE] at hv
  refine ⟨v, y, by rw [hE], ?_, ⟨hpm, h.run, h.iv, h.sy, h.cu, h.wr, fun k hk' => Nat.lt_of_lt_of_le (h.xl k hk') hk.size⟩, hk, fun hx h0 => hy hx.b h0⟩
  by_cases hi : 0 ≤ i ∧ i < ((s.ws.length / 24 : Nat) : Int)
  · have e2 : rE s.ws.length i = 0 := by unfold rE; rw [if_pos hi]
    rw [if_pos e2] at hv ⊢
    rw [← dpage_eq h.sy (by omega)]
    exact hv
  · have e2 : rE s.ws.length i = 2 := by unfold rE; rw [if_neg hi]
    rw [if_neg (by omega)] at hv ⊢
    exact hv
theorem lopen_ps {n : Nat} {pb b g gf gh : Nat} (h1 : 240 ≤ n) (h2 : n ≤ 65536) (hpm : PM w' (fun k => k = b ∨ k = g ∨ k = pb ∨ k = gf ∨ k = gh) pb b g gf gh (st0 n 1073741824) 0 (ldD (List.replicate n 0) 0 0) 0) :
    Ps w' (fun k => k = b ∨ k = g ∨ k = pb ∨ k = gf ∨ k = gh) pb b g gf gh (st0 n 1073741824) 0 (ldD (List.replicate n 0) 0 0) 0 0 0 :=
  ⟨hpm, Run.new n, Iv.zero n h1 h2, Syn.ld 0 0, rfl, rfl, fun k hk => by
    rcases hk with rfl | rfl | rfl | rfl | rfl
    · exact hpm.ma.ltb
    · exact hpm.ma.ltg
    · exact hpm.pg.l1
    · exact hpm.pg.l2
    · exact hpm.pg.l3⟩
end
end Go.Proofs.YtiholfpcndjliaaDoor
