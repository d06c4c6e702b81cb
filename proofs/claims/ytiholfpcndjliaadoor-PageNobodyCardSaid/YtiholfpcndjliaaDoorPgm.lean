/-
  What a write leaves of the pages (mathematics).
-/
import Derived.Test.YtiholfpcndjliaaDoorPgl
namespace Go.Proofs.YtiholfpcndjliaaDoor
set_option linter.unusedVariables false
set_option linter.unusedSimpArgs false
open Go.RowKit

theorem b3_num (l : List UInt8) (i : Nat) : b3 (numJ l i 3) = [l.getD i 0, l.getD (i + 1) 0, l.getD (i + 2) 0] := by
  have e : numJ l i 3 = ((l.getD i 0).toNat * 256 + (l.getD (i + 1) 0).toNat) * 256 + (l.getD (i + 2) 0).toNat := by simp [numJ]
  generalize l.getD i 0 = a at *
  generalize l.getD (i + 1) 0 = b at *
  generalize l.getD (i + 2) 0 = c at *
  have ha := a.toNat_lt
  have hb := b.toNat_lt
  have hc := c.toNat_lt
  unfold b3
  rw [e]
  have e1 : UInt8.ofNat (((a.toNat * 256 + b.toNat) * 256 + c.toNat) / 65536) = a := by
    apply UInt8.toNat_inj.1
    first | (simp; done) | (simp; omega)
  have e2 : UInt8.ofNat (((a.toNat * 256 + b.toNat) * 256 + c.toNat) / 256) = b := by
    apply UInt8.toNat_inj.1
    first | (simp; done) | (simp; omega)
  have e3 : UInt8.ofNat ((a.toNat * 256 + b.toNat) * 256 + c.toNat) = c := by
    apply UInt8.toNat_inj.1
    first | (simp; done) | (simp; omega)
  rw [e1, e2, e3]
theorem unp_up (w : List Nat) (l : List UInt8) : ∀ k, k ≤ 16 → (∀ j, j < 16 → decD (w.getD j 0) = numJ l (3 * j) 3) → unpK w k = (List.range (3 * k)).map fun j => l.getD j 0
  | 0, _, _ => rfl
  | k + 1, hk, h => by
    rw [unpK_succ, unp_up w l k (by omega) h, h k (by omega), b3_num]
    rw [show 3 * (k + 1) = 3 * k + 1 + 1 + 1 by omega, List.range_succ, List.range_succ, List.range_succ]
    simp
theorem unp_eq (w : List Nat) (l : List UInt8) (hl : l.length = 48) (h : ∀ j, j < 16 → decD (w.getD j 0) = numJ l (3 * j) 3) : unpK w 16 = l := by
  rw [unp_up w l 16 (Nat.le_refl _) h]
  apply List.ext_getElem
  · simp; omega
  · intro i h1 h2
    simp [List.getElem?_eq_getElem h2]

/-- The memory holds pages: every word can be read, the marks name pages, the turns are at most K. -/
structure Iv (ws : List Nat) (K : Nat) : Prop where
  n1 : 240 ≤ ws.length
  n2 : ws.length ≤ 65536
  ok : ∀ a, decH (ws.getD a 0) ≠ 2
  mrk : ∀ f, f < ws.length / 19 → decD (ws.getD (f * 19) 0) ≤ ws.length / 24
  hi : ∀ f, f < ws.length / 19 → decD (ws.getD (f * 19 + 1) 0) = 0
  lo : ∀ f, f < ws.length / 19 → decD (ws.getD (f * 19 + 2) 0) ≤ K
/-- What pages keep is what the memory says. -/
structure Syn (d : PD) (ws : List Nat) : Prop where
  F : d.F = ws.length / 19
  P : d.P = ws.length / 24
  fm : ∀ f, f < d.F → d.fm f = frM ws f
  hm : ∀ j : Nat, j < d.P → d.hm j = homeR (frM ws) (j : Int) d.F
  tm : d.tm = turnR (frM ws) d.F
/-- No bit is wrong. -/
def ExW (ws : List Nat) : Prop := ∀ a, decH (ws.getD a 0) = 0
theorem Iv.more {ws : List Nat} {K M : Nat} (h : Iv ws K) (hm : K ≤ M) : Iv ws M := ⟨h.n1, h.n2, h.ok, h.mrk, h.hi, fun f hf => Nat.le_trans (h.lo f hf) hm⟩
theorem Iv.tn {ws : List Nat} {K : Nat} (h : Iv ws K) (f : Nat) (hf : f < ws.length / 19) : (frM ws f).tn ≤ K := by
  unfold frM; simp only; rw [h.hi f hf]; have := h.lo f hf; omega
theorem Iv.pg {ws : List Nat} {K : Nat} (h : Iv ws K) (f : Nat) (hf : f < ws.length / 19) : -1 ≤ (frM ws f).pg ∧ (frM ws f).pg < ((ws.length / 24 : Nat) : Int) := by
  unfold frM; simp only; have := h.mrk f hf; omega
theorem Iv.ldB {ws : List Nat} {K : Nat} (h : Iv ws K) : ldB ws = true := ldB_all fun f hf => ⟨hok_good fun k _ => h.ok _, (h.pg f hf).2⟩
theorem Syn.ld {ws : List Nat} (cu wr : Nat) : Syn (ldD ws cu wr) ws := ⟨rfl, rfl, fun _ _ => rfl, fun _ _ => rfl, rfl⟩
theorem badB_no {ws : List Nat} (h : ∀ a, decH (ws.getD a 0) ≠ 2) (f : Nat) : ∀ k, k ≤ 16 → badB (bodyW ws f) k = false
  | 0, _ => rfl
  | k + 1, hk => by
    show (badB (bodyW ws f) k || decH ((bodyW ws f).getD k 0) == 2) = false
    rw [badB_no h f k (by omega), bodyW_at _ _ _ (by omega)]
    simpa using h _
theorem Iv.okd {s : St} {d : PD} {K : Nat} (h : Iv s.ws K) (hs : Syn d s.ws) (hon : s.on = true) (hK : K < 16777216) : OkD s d :=
  ⟨hon, by rw [hs.F]; omega, by rw [hs.F, hs.P]; have := h.n1; omega, fun f hf => by rw [hs.fm f hf, hs.P]; exact h.pg f (by rw [← hs.F]; exact hf), fun f hf => by rw [hs.fm f hf]; have := h.tn f (by rw [← hs.F]; exact hf); omega⟩
theorem Syn.tmle {d : PD} {ws : List Nat} {K : Nat} (h : Syn d ws) (hi : Iv ws K) : d.tm ≤ K := by
  rw [h.tm, h.F]; exact turnR_max _ _ _ fun i hi' => hi.tn i hi'

/-- The writes of a put. -/
theorem pgL_mem {f T i : Nat} {l : List UInt8} {x : Wr} (hx : x ∈ pgL f T i l) : (x.a = f * 19 ∧ x.v = encW (i + 1)) ∨ x ∈ resL f T 3 ++ bdyL f l 16 := by
  unfold pgL at hx
  rcases List.mem_append.1 hx with h | h
  · exact .inr h
  · rcases List.mem_singleton.1 h with rfl; exact .inl ⟨rfl, rfl⟩
theorem rb_mem {f T : Nat} {l : List UInt8} {x : Wr} (hx : x ∈ resL f T 3 ++ bdyL f l 16) :
    (x.a = f * 19 ∧ x.v = encW 0) ∨ (x.a = f * 19 + 1 ∧ x.v = encW 0) ∨ (x.a = f * 19 + 2 ∧ x.v = encW T) ∨ ∃ j, j < 16 ∧ x.a = f * 19 + 3 + j ∧ x.v = encW (numJ l (3 * j) 3) := by
  rcases List.mem_append.1 hx with h | h
  · obtain ⟨j, hj, rfl⟩ := List.mem_map.1 h
    have hj := List.mem_range.1 hj
    have h3 : j = 0 ∨ j = 1 ∨ j = 2 := by omega
    rcases h3 with rfl | rfl | rfl
    · exact .inl ⟨rfl, by simp [resD]⟩
    · exact .inr (.inl ⟨rfl, by simp [resD]⟩)
    · exact .inr (.inr (.inl ⟨rfl, by simp [resD]⟩))
  · obtain ⟨j, hj, rfl⟩ := List.mem_map.1 h
    exact .inr (.inr (.inr ⟨j, List.mem_range.1 hj, rfl, rfl⟩))
theorem pgL_val {f T i : Nat} {l : List UInt8} {x : Wr} (hT : T < 16777216) (hi : i + 1 < 16777216) (hx : x ∈ pgL f T i l) : (∃ dd, dd < 16777216 ∧ x.v = encW dd) ∧ f * 19 ≤ x.a ∧ x.a < f * 19 + 19 := by
  rcases pgL_mem hx with ⟨h1, h2⟩ | h
  · exact ⟨⟨_, hi, h2⟩, by omega, by omega⟩
  · rcases rb_mem h with ⟨h1, h2⟩ | ⟨h1, h2⟩ | ⟨h1, h2⟩ | ⟨j, hj, h1, h2⟩
    · exact ⟨⟨0, by omega, h2⟩, by omega, by omega⟩
    · exact ⟨⟨0, by omega, h2⟩, by omega, by omega⟩
    · exact ⟨⟨T, hT, h2⟩, by omega, by omega⟩
    · exact ⟨⟨_, (numJ_lt l (3 * j)).2.2, h2⟩, by omega, by omega⟩
/-- Some of the writes of a put: what holds of all of them. -/
structure Part (ws ws' : List Nat) (f T K : Nat) : Prop where
  len : ws'.length = ws.length
  off : ∀ a, a < f * 19 ∨ f * 19 + 19 ≤ a → ws'.getD a 0 = ws.getD a 0
  ok : (∀ a, decH (ws.getD a 0) ≠ 2) → ∀ a, decH (ws'.getD a 0) ≠ 2
  ex : ExW ws → ExW ws'
  hi : decD (ws.getD (f * 19 + 1) 0) = 0 → decD (ws'.getD (f * 19 + 1) 0) = 0
  lo : decD (ws.getD (f * 19 + 2) 0) ≤ K → decD (ws'.getD (f * 19 + 2) 0) ≤ max K T
theorem part_of {ws : List Nat} {f T i K : Nat} {l : List UInt8} (hT : T < 16777216) (hi : i + 1 < 16777216) {m : List Wr} (hm : ∀ x ∈ m, x ∈ pgL f T i l) : Part ws (setL ws m) f T K := by
  have hv : ∀ x ∈ m, decH x.v = 0 := fun x hx => by obtain ⟨⟨dd, h1, h2⟩, _⟩ := pgL_val hT hi (hm x hx); rw [h2]; exact (cor0 h1).2
  refine ⟨setL_len .., fun a ha => setL_off _ fun x hx => by have := (pgL_val hT hi (hm x hx)).2; omega, fun h a => ?_, fun h a => ?_, fun h => ?_, fun h => ?_⟩
  · rcases setL_or (l := m) (a := a) ws with e | ⟨x, hx, _, e⟩
    · rw [e]; exact h a
    · rw [e, hv x hx]; omega
  · rcases setL_or (l := m) (a := a) ws with e | ⟨x, hx, _, e⟩
    · rw [e]; exact h a
    · rw [e, hv x hx]
  · rcases setL_or (l := m) (a := f * 19 + 1) ws with e | ⟨x, hx, ea, e⟩
    · rw [e]; exact h
    · have : x.v = encW 0 := by
        rcases pgL_mem (hm x hx) with ⟨h1, _⟩ | h
        · omega
        · rcases rb_mem h with ⟨h1, h2⟩ | ⟨h1, h2⟩ | ⟨h1, h2⟩ | ⟨j, hj, h1, h2⟩
          · omega
          · exact h2
          · omega
          · omega
      rw [e, this]; exact (cor0 (by omega)).1
  · rcases setL_or (l := m) (a := f * 19 + 2) ws with e | ⟨x, hx, ea, e⟩
    · rw [e]; omega
    · have : x.v = encW T := by
        rcases pgL_mem (hm x hx) with ⟨h1, _⟩ | h
        · omega
        · rcases rb_mem h with ⟨h1, h2⟩ | ⟨h1, h2⟩ | ⟨h1, h2⟩ | ⟨j, hj, h1, h2⟩
          · omega
          · omega
          · exact h2
          · omega
      rw [e, this, (cor0 hT).1]; omega
theorem take_sub {f T i : Nat} {l : List UInt8} (k : Nat) (hk : k < 20) : (pgL f T i l).take k = (resL f T 3 ++ bdyL f l 16).take k := by
  unfold pgL
  rw [List.take_append_of_le_length (by rw [List.length_append, resL_len, bdyL_len]; omega)]
/-- After some of the writes, but not the last one, the frame is void. -/
theorem part_void {ws : List Nat} {f T i : Nat} {l : List UInt8} {k : Nat} (hk : k < 20) (h0 : 0 < k) (hf : f * 19 < ws.length) : (setL ws ((pgL f T i l).take k)).getD (f * 19) 0 = encW 0 := by
  rw [take_sub k hk]
  refine setL_all ws hf ⟨⟨true, f * 19, encW 0⟩, ?_, rfl⟩ fun x hx e => ?_
  · obtain ⟨j, rfl⟩ : ∃ j, k = j + 1 := ⟨k - 1, by omega⟩
    show _ ∈ List.take (j + 1) ((⟨true, f * 19 + 0, encW (resD T 0)⟩ : Wr) :: ([⟨true, f * 19 + 1, encW (resD T 1)⟩, ⟨true, f * 19 + 2, encW (resD T 2)⟩] ++ bdyL f l 16))
    rw [List.take_succ_cons]
    exact List.mem_cons_self
  · rcases rb_mem (List.mem_of_mem_take hx) with ⟨h1, h2⟩ | ⟨h1, h2⟩ | ⟨h1, h2⟩ | ⟨j, hj, h1, h2⟩
    · exact h2
    · omega
    · omega
    · omega
/-- After all of the writes. -/
theorem all_mark {ws : List Nat} {f T i : Nat} {l : List UInt8} (hf : f * 19 < ws.length) : (setL ws (pgL f T i l)).getD (f * 19) 0 = encW (i + 1) := by
  unfold pgL
  rw [setL_snoc]
  exact getD_set_eq _ _ _ (by rw [setL_len]; exact hf)
theorem all_low {ws : List Nat} {f T i : Nat} {l : List UInt8} (hf : f * 19 + 2 < ws.length) : (setL ws (pgL f T i l)).getD (f * 19 + 2) 0 = encW T := by
  refine setL_all ws hf ⟨⟨true, f * 19 + 2, encW T⟩, ?_, rfl⟩ fun x hx e => ?_
  · unfold pgL
    simp only [List.mem_append]
    refine .inl (.inl (List.mem_map.2 ⟨2, by simp, rfl⟩))
  · rcases pgL_mem hx with ⟨h1, _⟩ | h
    · omega
    · rcases rb_mem h with ⟨h1, h2⟩ | ⟨h1, h2⟩ | ⟨h1, h2⟩ | ⟨j, hj, h1, h2⟩
      · omega
      · omega
      · exact h2
      · omega
theorem all_body {ws : List Nat} {f T i : Nat} {l : List UInt8} (j : Nat) (hj : j < 16) (hf : f * 19 + 19 ≤ ws.length) : (setL ws (pgL f T i l)).getD (f * 19 + 3 + j) 0 = encW (numJ l (3 * j) 3) := by
  refine setL_all ws (by omega) ⟨⟨false, f * 19 + 3 + j, encW (numJ l (3 * j) 3)⟩, ?_, rfl⟩ fun x hx e => ?_
  · unfold pgL
    simp only [List.mem_append]
    exact .inl (.inr (List.mem_map.2 ⟨j, by simpa using hj, rfl⟩))
  · rcases pgL_mem hx with ⟨h1, _⟩ | h
    · omega
    · rcases rb_mem h with ⟨h1, h2⟩ | ⟨h1, h2⟩ | ⟨h1, h2⟩ | ⟨k, hk, h1, h2⟩
      · omega
      · omega
      · omega
      · obtain rfl : j = k := by omega
        exact h2
theorem part_fr {ws ws' : List Nat} {f T K : Nat} (h : Part ws ws' f T K) : ∀ g, g ≠ f → frM ws' g = frM ws g := by
  intro g hg
  have e : ∀ k, k < 3 → ws'.getD (g * 19 + k) 0 = ws.getD (g * 19 + k) 0 := fun k hk => h.off _ (by omega)
  unfold frM
  rw [show ws'.getD (g * 19) 0 = ws.getD (g * 19) 0 from e 0 (by omega), e 1 (by omega), e 2 (by omega)]
theorem part_bytes {ws ws' : List Nat} {f T K : Nat} (h : Part ws ws' f T K) (g : Nat) (hg : g ≠ f) : bytesW ws' g = bytesW ws g := by
  have : bodyW ws' g = bodyW ws g := by
    unfold bodyW
    apply List.map_congr_left
    intro k hk
    have hk := List.mem_range.1 hk
    exact h.off _ (by omega)
  unfold bytesW
  rw [this]
theorem part_iv {ws ws' : List Nat} {f T K : Nat} (h : Part ws ws' f T K) (hi : Iv ws K) (hT : T ≤ K + 1) (hm : f < ws.length / 19 → decD (ws'.getD (f * 19) 0) ≤ ws.length / 24) : Iv ws' (K + 1) := by
  refine ⟨by rw [h.len]; exact hi.n1, by rw [h.len]; exact hi.n2, h.ok hi.ok, fun g hg => ?_, fun g hg => ?_, fun g hg => ?_⟩
  · rw [h.len] at hg ⊢
    by_cases e : g = f
    · subst e; exact hm hg
    · rw [h.off _ (by omega)]; exact hi.mrk g hg
  · rw [h.len] at hg
    by_cases e : g = f
    · subst e; exact h.hi (hi.hi _ hg)
    · rw [h.off _ (by omega)]; exact hi.hi g hg
  · rw [h.len] at hg
    by_cases e : g = f
    · subst e; have := h.lo (hi.lo _ hg); omega
    · rw [h.off _ (by omega)]; have := hi.lo g hg; omega
end Go.Proofs.YtiholfpcndjliaaDoor
