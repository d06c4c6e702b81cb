/-
  What a put, a move, a write leave of the pages (mathematics).
-/
import Derived.Test.YtiholfpcndjliaaDoorPgm
namespace Go.Proofs.YtiholfpcndjliaaDoor
set_option linter.unusedVariables false
set_option linter.unusedSimpArgs false
open Go.RowKit

theorem pageW_eq {ws ws' : List Nat} {j : Nat} (hl : ws'.length = ws.length) (hh : homeR (frM ws') (j : Int) (ws.length / 19) = homeR (frM ws) (j : Int) (ws.length / 19)) (hb : ∀ m : Nat, homeR (frM ws) (j : Int) (ws.length / 19) = m → bytesW ws' m = bytesW ws m) : pageW ws' j = pageW ws j := by
  unfold pageW
  rw [hl, hh]
  split
  · rfl
  · rename_i h
    rcases homeR_range (frM ws) (j : Int) (ws.length / 19) with e | ⟨m, _, e, _⟩
    · exact absurd e h
    · rw [e, Int.toNat_natCast]; exact hb m e
/-- A frame that is free is the home of no page. -/
theorem free_home {ws : List Nat} {f j : Nat} (hf : f < ws.length / 19) (hj : j < ws.length / 24) (hfree : (frM ws f).pg = -1 ∨ homeR (frM ws) (((frM ws f).pg.toNat : Nat) : Int) (ws.length / 19) ≠ (f : Int)) : homeR (frM ws) (j : Int) (ws.length / 19) ≠ (f : Int) := by
  intro e
  rcases homeR_range (frM ws) (j : Int) (ws.length / 19) with h | ⟨m, hm, h, hp⟩
  · omega
  · obtain rfl : m = f := by omega
    rcases hfree with h1 | h1
    · omega
    · rw [hp, Int.toNat_natCast] at h1
      exact h1 e
theorem syn_free {d : PD} {ws : List Nat} {K : Nat} (hs : Syn d ws) (hi : Iv ws K) {f : Nat} (hf : f < d.F) (h : freeB d.fm d.hm f = true) : (frM ws f).pg = -1 ∨ homeR (frM ws) (((frM ws f).pg.toNat : Nat) : Int) (ws.length / 19) ≠ (f : Int) := by
  unfold freeB at h
  rw [hs.fm f hf] at h
  have hp := hi.pg f (by rw [← hs.F]; exact hf)
  by_cases e : (frM ws f).pg = -1
  · exact .inl e
  · refine .inr ?_
    simp only [Bool.or_eq_true, decide_eq_true_eq] at h
    rcases h with h | h
    · exact absurd h e
    · rw [hs.hm _ (by rw [hs.P]; omega), hs.F] at h
      exact h
/-- How a put ends: done, or cut. -/
structure PutOk (s : St) (d : PD) (i : Nat) (l : List UInt8) (N K : Nat) (r : St × PD × Int) : Prop where
  e : r.2.2 = 0
  iv : Iv r.1.ws K
  sy : Syn r.2.1 r.1.ws
  run : Run r.1 N
  cu : r.1.cu = s.cu
  cut : s.cut = none → r.1.cut = none
  wr : r.2.1.wr = r.1.wr
  dcu : r.2.1.cu = d.cu
  ex : ExW s.ws → ExW r.1.ws
  len : r.1.ws.length = s.ws.length
  pg : ∀ j, j < s.ws.length / 24 → pageW r.1.ws j = if j = i then l else pageW s.ws j
structure PutCut (s : St) (d : PD) (i : Nat) (l : List UInt8) (N K : Nat) (r : St × PD × Int) : Prop where
  e : r.2.2 = 7
  iv : Iv r.1.ws K
  on : r.1.on = false
  cu : r.1.cu = s.cu + 1
  fine : Fine r.1 N
  en : r.1.en = 1073741824
  cut : s.cut ≠ none
  dcu : r.2.1.cu = d.cu
  dP : r.2.1.P = d.P
  len : r.1.ws.length = s.ws.length
  pg : (∀ j, j < s.ws.length / 24 → pageW r.1.ws j = pageW s.ws j) ∨ ∀ j, j < s.ws.length / 24 → pageW r.1.ws j = if j = i then l else pageW s.ws j

set_option maxRecDepth 100000 in
theorem put_math {s : St} {d : PD} {N K i : Nat} {l : List UInt8} (hr : Run s N) (hN : N + 20 < 1000000) (hi : Iv s.ws K) (hs : Syn d s.ws) (hiP : i < s.ws.length / 24) (hl : l.length = 48) (hK : K + 1 < 16777216) :
    PutOk s d i l (N + 20) (K + 1) (putM s d i l) ∨ PutCut s d i l (N + 20) (K + 1) (putM s d i l) := by
  obtain ⟨f, hf, hff, hfl, hfree, _⟩ := ok_first (hi.okd hs hr.on (by omega))
  have htm := hs.tmle hi
  have hP : putM s d i l = ((runC s (pgL f (d.tm + 1) i l)).1, if (runC s (pgL f (d.tm + 1) i l)).2 = 0 then putD d f i (runC s (pgL f (d.tm + 1) i l)).1.wr else d, (runC s (pgL f (d.tm + 1) i l)).2) := by
    unfold putM; rw [hff, Int.toNat_natCast]
  have hlen := hi.n2
  have hT : d.tm + 1 < 16777216 := by omega
  have hi2 : i + 1 < 16777216 := by omega
  have hf19 : f < s.ws.length / 19 := by rw [← hs.F]; exact hf
  have hfr := syn_free hs hi hf hfree
  have hhome : ∀ j, j < s.ws.length / 24 → homeR (frM s.ws) (j : Int) (s.ws.length / 19) ≠ (f : Int) := fun j hj => free_home hf19 hj hfr
  rcases run_pre (pgL f (d.tm + 1) i l) s N hr (by rw [pgL_len]; omega) (fun x hx => ⟨pgL_lt _ _ _ _ x hx, by have := (pgL_val hT hi2 hx).2; omega⟩) with ⟨h1, h2, h3, h4, h5⟩ | ⟨k, h0, h1, h2, h3, h4, h5, h6, h7⟩
  · rw [pgL_len] at h3
    left
    rw [hP]
    have hp := part_of (ws := s.ws) (K := K) (m := pgL f (d.tm + 1) i l) hT hi2 (fun x hx => hx)
    rw [← h2] at hp
    have hmk : (runC s (pgL f (d.tm + 1) i l)).1.ws.getD (f * 19) 0 = encW (i + 1) := by rw [h2]; exact all_mark (by omega)
    have hlo : (runC s (pgL f (d.tm + 1) i l)).1.ws.getD (f * 19 + 2) 0 = encW (d.tm + 1) := by rw [h2]; exact all_low (by omega)
    have hbo : ∀ j, j < 16 → (runC s (pgL f (d.tm + 1) i l)).1.ws.getD (f * 19 + 3 + j) 0 = encW (numJ l (3 * j) 3) := fun j hj => by rw [h2]; exact all_body j hj hfl
    generalize runC s (pgL f (d.tm + 1) i l) = r at *
    obtain ⟨u, q⟩ := r
    simp only at h1 h2 h3 h4 h5 hp hmk hlo hbo
    subst h1
    simp only [if_true]
    have hiv : Iv u.ws (K + 1) := part_iv hp hi (by omega) (fun _ => by rw [hmk, (cor0 hi2).1]; omega)
    have hfrf : frM u.ws f = ⟨(i : Int), d.tm + 1⟩ := by
      unfold frM
      rw [hmk, hlo, (cor0 hi2).1, (cor0 hT).1, hp.hi (hi.hi f hf19)]
      rw [Nat.zero_mul, Nat.zero_add, show ((i + 1 : Nat) : Int) - 1 = (i : Int) by omega]
    have hfm : ∀ g, g < d.F → (if g = f then (⟨(i : Int), d.tm + 1⟩ : Fr) else d.fm g) = frM u.ws g := fun g hg => by
      by_cases e : g = f
      · subst e; rw [if_pos rfl, hfrf]
      · rw [if_neg e, part_fr hp g e]; exact hs.fm g hg
    have hho : ∀ j : Nat, j < s.ws.length / 24 → homeR (frM u.ws) (j : Int) (s.ws.length / 19) = if j = i then (f : Int) else homeR (frM s.ws) (j : Int) (s.ws.length / 19) := fun j hj => by
      by_cases e : j = i
      · subst e
        rw [if_pos rfl]
        refine homeR_new hf19 (by rw [hfrf]) fun g hg hne => ?_
        rw [hfrf, part_fr hp g hne]
        have := turnR_le (frM s.ws) _ g hg
        rw [← hs.F, ← hs.tm] at this
        show _ < d.tm + 1
        omega
      · rw [if_neg e]
        refine homeR_off (f := f) (fun g _ hne => part_fr hp g hne) (hhome j hj) ?_
        rw [hfrf]
        show (i : Int) ≠ (j : Int)
        omega
    refine ⟨rfl, hiv, ⟨by rw [hp.len]; exact hs.F, by rw [hp.len]; exact hs.P, fun g hg => hfm g hg, fun j hj => ?_, ?_⟩, h3, h4, h5, rfl, rfl, hp.ex, hp.len, fun j hj => ?_⟩
    · show (if j = i then (f : Int) else d.hm j) = homeR (frM u.ws) (j : Int) d.F
      have hj' : j < s.ws.length / 24 := by rw [← hs.P]; exact hj
      rw [hs.F, hho j hj']
      split
      · rfl
      · rw [hs.hm j hj, hs.F]
    · show d.tm + 1 = turnR (frM u.ws) d.F
      refine (turnR_eq hf (by rw [hfrf]) fun g hg => ?_).symm
      by_cases e : g = f
      · subst e; rw [hfrf]; exact Nat.le_refl _
      · rw [part_fr hp g e]
        have := turnR_le (frM s.ws) _ g hg
        rw [← hs.tm] at this
        omega
    · by_cases e : j = i
      · subst e
        rw [if_pos rfl]
        unfold pageW
        rw [hp.len, hho j hj, if_pos rfl, if_neg (by omega), Int.toNat_natCast]
        unfold bytesW
        exact unp_eq _ l hl fun k hk => by rw [bodyW_at _ _ _ hk, hbo k hk, (cor0 (numJ_lt l (3 * k)).2.2).1]
      · rw [if_neg e]
        refine pageW_eq hp.len (by rw [hho j hj, if_neg e]) fun m hm => part_bytes hp m fun e2 => ?_
        subst e2
        exact hhome j hj hm
  · rw [pgL_len] at h0 h5
    right
    rw [hP]
    have hp := part_of (ws := s.ws) (K := K) (m := (pgL f (d.tm + 1) i l).take k) hT hi2 (fun x hx => List.mem_of_mem_take hx)
    have hk0 : k = 0 → (runC s (pgL f (d.tm + 1) i l)).1.ws = s.ws := fun e => by subst e; rw [h2]; rfl
    have hkv : 0 < k → (runC s (pgL f (d.tm + 1) i l)).1.ws.getD (f * 19) 0 = encW 0 := fun h => by rw [h2]; exact part_void h0 h (by omega)
    rw [← h2] at hp
    generalize runC s (pgL f (d.tm + 1) i l) = r at *
    obtain ⟨u, q⟩ := r
    simp only at h1 h2 h3 h4 h5 h6 hp hk0 hkv
    subst h1
    simp only [show ¬ ((7 : Int) = 0) by omega, if_false]
    have hiv : Iv u.ws (K + 1) := by
      rcases Nat.eq_zero_or_pos k with e | e
      · rw [hk0 e]; exact hi.more (by omega)
      · exact part_iv hp hi (by omega) (fun _ => by rw [hkv e, (cor0 (by omega)).1]; omega)
    refine ⟨rfl, hiv, h3, h4, h5, h6, h7, rfl, rfl, hp.len, .inl fun j hj => ?_⟩
    rcases Nat.eq_zero_or_pos k with e | e
    · rw [hk0 e]
    · refine pageW_eq hp.len (homeR_off (f := f) (fun g _ hne => part_fr hp g hne) (hhome j hj) ?_) fun m hm => part_bytes hp m fun e2 => ?_
      · unfold frM; rw [hkv e, (cor0 (by omega)).1]; show ((0 : Nat) : Int) - 1 ≠ (j : Int); omega
      · subst e2; exact hhome j hj hm
set_option maxRecDepth 100000 in
theorem mv_math {s : St} {d : PD} {N K : Nat} (hr : Run s N) (hN : N + 20 < 1000000) (hi : Iv s.ws K) (hs : Syn d s.ws) (hK : K + 1 < 16777216) {f0 : Nat} (hf0 : f0 < d.F) (hb : freeB d.fm d.hm f0 = false) (hwr : d.wr = s.wr) :
    (∃ i l, PutOk s d i l (N + 20) (K + 1) (mvM s d) ∧ ∀ j, j < s.ws.length / 24 → pageW (mvM s d).1.ws j = pageW s.ws j) ∨ ∃ i l, PutCut s d i l (N + 20) (K + 1) (mvM s d) ∧ ∀ j, j < s.ws.length / 24 → pageW (mvM s d).1.ws j = pageW s.ws j := by
  obtain ⟨m, j0, hm, hfm, hml, hpj, hj, hhj⟩ := ok_home (hi.okd hs hr.on (by omega)) hf0 hb
  unfold mvM
  rw [hfm, Int.toNat_natCast, hpj, Int.toNat_natCast]
  have hbad := badB_no hi.ok m 16 (Nat.le_refl _)
  rw [hbad]
  have hj2 : j0 < s.ws.length / 24 := by rw [← hs.P]; exact hj
  have hpage : pageW s.ws j0 = bytesW s.ws m := by
    have := hs.hm j0 hj
    rw [hhj, hs.F] at this
    unfold pageW
    rw [← this, if_neg (by omega), Int.toNat_natCast]
  split
  · refine .inl ⟨0, pageW s.ws 0, ⟨rfl, hi.more (by omega), hs, hr.more (by omega), rfl, fun h => h, hwr, rfl, fun h => h, rfl, fun j _ => ?_⟩, fun j _ => rfl⟩
    split
    · rename_i e; subst e; rfl
    · rfl
  · rw [if_neg (by simp)]
    have hsame : ∀ (ws' : List Nat), (∀ j, j < s.ws.length / 24 → pageW ws' j = if j = j0 then bytesW s.ws m else pageW s.ws j) → ∀ j, j < s.ws.length / 24 → pageW ws' j = pageW s.ws j := fun ws' h j hj => by
      rw [h j hj]
      split
      · rename_i e; subst e; exact hpage.symm
      · rfl
    rcases put_math (i := j0) (l := bytesW s.ws m) hr hN hi hs hj2 (bytesW_len ..) hK with h | h
    · exact .inl ⟨j0, bytesW s.ws m, h, hsame _ h.pg⟩
    · refine .inr ⟨j0, bytesW s.ws m, h, ?_⟩
      rcases h.pg with hp | hp
      · exact hp
      · exact hsame _ hp
set_option maxRecDepth 100000 in
theorem wr_math {s : St} {d : PD} {N K i : Nat} {l : List UInt8} (hr : Run s N) (hN : N + 40 < 1000000) (hi : Iv s.ws K) (hs : Syn d s.ws) (hiP : i < s.ws.length / 24) (hl : l.length = 48) (hK : K + 2 < 16777216) :
    PutOk s d i l (N + 40) (K + 2) (wrM s d i l) ∨ PutCut s d i l (N + 40) (K + 2) (wrM s d i l) := by
  unfold wrM
  rcases put_math hr (by omega) hi hs hiP hl (by omega) with h | h
  · rw [if_neg (by rw [h.e]; simp)]
    obtain ⟨f, hf, hff, hfl, hfree, _⟩ := ok_first (hi.okd hs hr.on (by omega))
    have hz : (runC s (pgL f (d.tm + 1) i l)).2 = 0 := by have := h.e; unfold putM at this; rw [hff, Int.toNat_natCast] at this; exact this
    have hpd : (putM s d i l).2.1 = putD d f i (putM s d i l).1.wr := by unfold putM; rw [hff, Int.toNat_natCast]; simp only; rw [if_pos hz]
    have hfb : freeB (putM s d i l).2.1.fm (putM s d i l).2.1.hm f = false := by
      rw [hpd]
      have hp := (putD_ok (N := N) (hi.okd hs hr.on (by omega)) l (show i < d.P by rw [hs.P]; exact hiP) hf (by have := hs.tmle hi; omega) hz).2
      have : (putM s d i l).1.wr = (runC s (pgL f (d.tm + 1) i l)).1.wr := by unfold putM; rw [hff, Int.toNat_natCast]
      rw [this]
      exact hp
    have hF : f < (putM s d i l).2.1.F := by rw [hpd]; exact hf
    rcases mv_math h.run (by omega) h.iv h.sy (by omega) hF hfb h.wr with ⟨i', l', g, gp⟩ | ⟨i', l', g, gp⟩
    · refine .inl ⟨g.e, g.iv, g.sy, g.run, g.cu.trans h.cu, fun hc => g.cut (h.cut hc), g.wr, g.dcu.trans h.dcu, fun hx => g.ex (h.ex hx), g.len.trans h.len, fun j hj => ?_⟩
      rw [gp j (by rw [h.len]; exact hj), h.pg j hj]
    · refine .inr ⟨g.e, g.iv, g.on, by rw [g.cu, h.cu], g.fine, g.en, fun hc => g.cut (h.cut hc), g.dcu.trans h.dcu, by rw [g.dP, hpd]; rfl, g.len.trans h.len, .inr fun j hj => ?_⟩
      rw [gp j (by rw [h.len]; exact hj), h.pg j hj]
  · rw [if_pos (by rw [h.e]; simp)]
    exact .inr ⟨h.e, h.iv.more (by omega), h.on, h.cu, h.fine.more (by omega), h.en, h.cut, h.dcu, h.dP, h.len, h.pg⟩
/-- A new memory. -/
theorem dec_zero : decD 0 = 0 ∧ decH 0 = 0 := by decide +kernel
theorem Iv.zero (n : Nat) (h1 : 240 ≤ n) (h2 : n ≤ 65536) : Iv (List.replicate n 0) 0 :=
  ⟨by simpa using h1, by simpa using h2, fun a => by rw [rep0, dec_zero.2]; omega, fun f _ => by rw [rep0, dec_zero.1]; omega, fun f _ => by rw [rep0, dec_zero.1], fun f _ => by rw [rep0, dec_zero.1]; omega⟩
theorem ExW.zero (n : Nat) : ExW (List.replicate n 0) := fun a => by rw [rep0, dec_zero.2]
theorem page_zero (n j : Nat) : pageW (List.replicate n 0) j = List.replicate 48 0 := by
  unfold pageW
  rw [if_pos]
  refine homeR_eq (.inl ⟨rfl, fun i _ => ?_⟩)
  unfold frM
  rw [rep0, dec_zero.1]
  show ((0 : Nat) : Int) - 1 ≠ (j : Int)
  omega
theorem Run.new (n : Nat) : Run (st0 n 1073741824) 0 := ⟨rfl, Fine.new n _ (by omega), rfl⟩
theorem ExW.h {ws : List Nat} (h : ExW ws) : exH ws := fun f k _ _ => h _
theorem ExW.b {ws : List Nat} (h : ExW ws) : exB' ws := fun f k _ _ => h _
theorem pageW_len (ws : List Nat) (j : Nat) : (pageW ws j).length = 48 := by
  unfold pageW; split
  · simp
  · exact bytesW_len ..
end Go.Proofs.YtiholfpcndjliaaDoor
