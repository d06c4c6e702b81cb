/-
  The walks of moveEarliest and Write.
-/
import Derived.Test.YtiholfpcndjliaaDoorPgj
namespace Go.Proofs.YtiholfpcndjliaaDoor
set_option linter.unusedVariables false
set_option linter.unusedSimpArgs false
open Go.RowKit

theorem OB.kx {w w2 : World} {base : Nat} {X : Nat → Prop} {v : Value} {l : List UInt8} (h : OB w base v l) (hX : ∀ k, X k → k < base) (hk : KX X w w2) : OB w2 base v l := by
  obtain ⟨h1, h2⟩ := h
  refine ⟨h1, ?_⟩
  rcases h2 with h2 | ⟨g, cap, cur, hv, hg, hh, r⟩
  · exact .inl h2
  · refine .inr ⟨g, cap, cur, hv, hg, ?_, r⟩
    rw [hk.block g (Array.getElem?_eq_some_iff.1 hh).1 (fun e => by have := hX g e; omega), hh]
theorem bytesW_len (ws : List Nat) (f : Nat) : (bytesW ws f).length = 48 := by unfold bytesW; rw [unpK_len]

/-- A put, a move, a write, as data. -/
def putM (s : St) (d : PD) (i : Nat) (l : List UInt8) : St × PD × Int :=
  ((runC s (pgL (firstR (selB d true) d.fm d.F).toNat (d.tm + 1) i l)).1, if (runC s (pgL (firstR (selB d true) d.fm d.F).toNat (d.tm + 1) i l)).2 = 0 then putD d (firstR (selB d true) d.fm d.F).toNat i (runC s (pgL (firstR (selB d true) d.fm d.F).toNat (d.tm + 1) i l)).1.wr else d,
    (runC s (pgL (firstR (selB d true) d.fm d.F).toNat (d.tm + 1) i l)).2)
def oldB (d : PD) (f : Nat) : Bool := decide ((d.tm : Int) - ((d.fm f).tn : Int) ≤ 4 * (d.F : Int))
def mvM (s : St) (d : PD) : St × PD × Int :=
  if oldB d (firstR (selB d false) d.fm d.F).toNat = true then (s, d, 0) else
    if badB (bodyW s.ws (firstR (selB d false) d.fm d.F).toNat) 16 = true then (s, d, 0) else putM s d (d.fm (firstR (selB d false) d.fm d.F).toNat).pg.toNat (bytesW s.ws (firstR (selB d false) d.fm d.F).toNat)
def wrM (s : St) (d : PD) (i : Nat) (l : List UInt8) : St × PD × Int := if (putM s d i l).2.2 ≠ 0 then putM s d i l else mvM (putM s d i l).1 (putM s d i l).2.1
/-- What of the pages a write needs. -/
structure OkD (s : St) (d : PD) : Prop where
  on : s.on = true
  F : d.F * 19 ≤ s.ws.length
  P : d.P < d.F
  q : ∀ f, f < d.F → -1 ≤ (d.fm f).pg ∧ (d.fm f).pg < (d.P : Int)
  tb : ∀ f, f < d.F → (d.fm f).tn < 281474976710656
section
variable {w w' : World} {X : Nat → Prop} {pb b g gf gh lf : Nat} {s : St} {d : PD} {fx : Int}
def MovR (X : Nat → Prop) (pb b g gf gh : Nat) (s : St) (fx : Int) (r : St × PD × Int) (w : World) (e : Ending) (w' : World) : Prop :=
  ∃ lf' fx', e = .returned (.int .i64 r.2.2) ∧ PM w' X pb b g gf gh r.1 lf' r.2.1 fx' ∧ KX X w w' ∧ (exB' s.ws → fx = 0 → fx' = 0)
theorem ok_first (h : OkD s d) : ∃ m : Nat, m < d.F ∧ firstR (selB d true) d.fm d.F = m ∧ m * 19 + 19 ≤ s.ws.length ∧ freeB d.fm d.hm m = true ∧ ∀ i, i < d.F → freeB d.fm d.hm i = true → (d.fm m).tn ≤ (d.fm i).tn := by
  obtain ⟨m, h1, h2, h3, h4⟩ := firstR_free (hm := d.hm) h.q h.P
  have hs : selB d true = freeB d.fm d.hm := by funext f; unfold selB; simp
  refine ⟨m, h1, by rw [hs]; exact h2, ?_, h3, h4⟩
  have := h.F
  have : (m + 1) * 19 ≤ d.F * 19 := Nat.mul_le_mul_right _ h1
  omega
theorem ok_home (h : OkD s d) {f0 : Nat} (hf0 : f0 < d.F) (hb : freeB d.fm d.hm f0 = false) : ∃ m j : Nat, m < d.F ∧ firstR (selB d false) d.fm d.F = m ∧ m * 19 + 19 ≤ s.ws.length ∧ (d.fm m).pg = (j : Int) ∧ j < d.P ∧ d.hm j = (m : Int) := by
  rcases firstR_is (selB d false) d.fm d.F with ⟨_, h2⟩ | ⟨m, h1, h2, h3, _⟩
  · have := h2 f0 hf0
    unfold selB at this
    rw [hb] at this
    cases this
  · have hF := h.F
    have : (m + 1) * 19 ≤ d.F * 19 := Nat.mul_le_mul_right _ h1
    have hq := h.q m h1
    have h4 : freeB d.fm d.hm m = false := by unfold selB at h3; simpa using h3
    unfold freeB at h4
    simp only [Bool.or_eq_false_iff, decide_eq_false_iff_not] at h4
    exact ⟨m, (d.fm m).pg.toNat, h1, h2, by omega, by omega, by omega, by simpa using h4.2⟩

set_option maxRecDepth 100000 in
set_option maxHeartbeats 1600000 in
theorem move_any {N : Nat} (h : PM w X pb b g gf gh s lf d fx) (hF : Fine s N) (hN : N + 20 < 1000000) (ho : OkD s d) (ht : d.tm + 1 < 16777216) (hX : ∀ k, X k → k < w.heap.size) (hFd : d.F = s.ws.length / 19)
    {f0 : Nat} (hf0 : f0 < d.F) (hb0 : freeB d.fm d.hm f0 = false) :
    Calls Tryd.prog 57 #[.pointer (some ⟨pb, 0, none⟩)] w (MovR X pb b g gf gh s fx (mvM s d) w) := by
  obtain ⟨m, j, hm, hfm, hml, hpj, hj, hhj⟩ := ok_home ho hf0 hb0
  obtain ⟨f, hf, hff, hfl, _, _⟩ := ok_first ho
  have HMV : Hid (mvM s d = if oldB d m = true then (s, d, 0) else if badB (bodyW s.ws m) 16 = true then (s, d, 0) else putM s d j (bytesW s.ws m)) := by
    show _ = _
    unfold mvM
    rw [hfm, Int.toNat_natCast, hpj, Int.toNat_natCast]
  have HPT : Hid (∀ l, putM s d j l = ((runC s (pgL f (d.tm + 1) j l)).1, if (runC s (pgL f (d.tm + 1) j l)).2 = 0 then putD d f j (runC s (pgL f (d.tm + 1) j l)).1.wr else d, (runC s (pgL f (d.tm + 1) j l)).2)) := fun l => by
    show _ = _
    unfold putM
    rw [hff, Int.toNat_natCast]
  have HFA := Lib.hid (far_any (Below.refl _ w) h ho.q false)
  have HBD := Lib.hid (fun (W : World) (hW : Below w.heap.size w W) => pbody_any2 (h.on hW) (fun k hk => Nat.lt_of_lt_of_le (hX k hk) hW.size) hF.ws ho.on m hml)
  have HPU := Lib.hid (fun (W : World) (y : Int) (hp : PM W X pb b g gf gh s lf d y) (hXW : ∀ k, X k → k < W.heap.size) (v : Value) (l : List UInt8) (hv : SL W W.heap.size v l) (hl : l.length = 48) (hvX : ∀ w2, KX X W w2 → SL w2 w2.heap.size v l) =>
    put_page hp hF hN ho.on f j hff hf hfl hj ht ho.q v l hv hl hXW hvX)
  have HC : Hid (∀ W, Below w.heap.size w W → W.cell? ⟨pb, 5, none⟩ = some (.int .i64 (d.tm : Int)) ∧ W.cell? ⟨pb, 3, none⟩ = some (.slice (some ⟨gf, 0, none⟩) d.F d.F) ∧ W.cell? ⟨gf, m * 2 + 1, none⟩ = some (.int .i64 ((d.fm m).tn : Int)) ∧ W.cell? ⟨gf, m * 2, none⟩ = some (.int .i64 (j : Int))) := fun W hW => by
    have hp := (h.on hW).pg
    have c3 := cell_of_row _ _ 3 _ _ _ hp.row
    have c5 := cell_of_row _ _ 5 _ _ _ hp.row
    exact ⟨c5, c3, hp.tn m hm, by rw [hp.pg m hm, hpj]⟩
  have HC2 : Hid (∀ (W : World) (y : Int), PM W X pb b g gf gh s lf d y → W.cell? ⟨pb, 3, none⟩ = some (.slice (some ⟨gf, 0, none⟩) d.F d.F) ∧ W.cell? ⟨gf, m * 2, none⟩ = some (.int .i64 (j : Int))) := fun W y hp => by
    have c3 := cell_of_row _ _ 3 _ _ _ hp.pg.row
    exact ⟨c3, by rw [hp.pg.pg m hm, hpj]⟩
  have hf1 := h.pg.f1
  have hmI : (m : Int) < (d.F : Int) := by omega
  have HXX := Lib.hid hX
  have HPM0 := Lib.hid h
  have HFM := Lib.hid hfm
  have HEX : Hid (exB' s.ws → ∀ k, k < 16 → decH (s.ws.getD (m * 19 + 3 + k) 0) = 0) := fun hh k hk => hh m k (by omega) hk
  have htb := ho.tb m hm
  have hob : oldB d m = decide ((d.tm : Int) - ((d.fm m).tn : Int) ≤ 4 * (d.F : Int)) := rfl
  clear h hF ho hX hb0 hfm hff hpj hhj hFd
  obtain ⟨tn, htn⟩ : ∃ tn, (d.fm m).tn = tn := ⟨_, rfl⟩
  rw [htn] at HC hob htb
  unfold FarR at HFA
  clear htn
  by_cases hold : (d.tm : Int) - (tn : Int) ≤ 4 * (d.F : Int)
  · have hob2 : oldB d m = true := by rw [hob]; exact decide_eq_true hold
    have HMQ : Hid (mvM s d = (s, d, 0)) := by show _ = _; rw [HMV.out, if_pos hob2]
    clear hob hob2 HMV
    go_enter Tryd.func57, Tryd.ntmps57
    go_wp2_with fail
    refine HFA.out.mono ?_
    rintro e w1 ⟨Bp, Bf, rfl, hb1, HE1'⟩
    have HE1 := Lib.hid (HE1' 0)
    clear HE1'
    go_wp2_with fail
    refine HE1.out.mono ?_
    rintro e w2 ⟨rfl, hb2⟩
    rw [HFM.out]
    obtain ⟨x1, x2, x3, x4⟩ := HC.out w2 hb2
    have HPM2 := Lib.hid (HPM0.out.on hb2)
    have HB2 := Lib.hid hb2
    clear hb1 hb2 HE1
    go_wp2_with fail
    go_quiet (fail)
    go_wp2_with fail
    go_ret
    rw [HMQ.out]
    exact ⟨lf, fx, rfl, HPM2.out.drewN _, (KX.of_below HB2.out).trans (KX.drewN _ _), fun _ h => h⟩
  · have hob2 : oldB d m = false := by rw [hob]; exact decide_eq_false hold
    have HMQ : Hid (mvM s d = if badB (bodyW s.ws m) 16 = true then (s, d, 0) else putM s d j (bytesW s.ws m)) := by show _ = _; rw [HMV.out, if_neg (by rw [hob2]; simp)]
    clear hob hob2 HMV
    go_enter Tryd.func57, Tryd.ntmps57
    go_wp2_with fail
    refine HFA.out.mono ?_
    rintro e w1 ⟨Bp, Bf, rfl, hb1, HE1'⟩
    have HE1 := Lib.hid (HE1' 0)
    clear HE1'
    go_wp2_with fail
    refine HE1.out.mono ?_
    rintro e w2 ⟨rfl, hb2⟩
    rw [HFM.out]
    obtain ⟨x1, x2, x3, x4⟩ := HC.out w2 hb2
    have HPM2 := Lib.hid (HPM0.out.on hb2)
    have HB2 := Lib.hid hb2
    clear hb1 hb2 HE1
    go_wp2_with fail
    go_quiet (fail)
    have hb3 := below_drewN HB2.out nq
    have HBD2 := HBD.out _ hb3
    have HB3 := Lib.hid hb3
    have HEQ : Hid (∀ q : Int, (if badB (bodyW s.ws m) 16 = true then 9 else 0) = q → (q = 9 ∧ badB (bodyW s.ws m) 16 = true) ∨ (q = 0 ∧ badB (bodyW s.ws m) 16 = false)) := fun q hq => by
      cases hb : badB (bodyW s.ws m) 16
      · rw [hb] at hq; exact .inr ⟨hq.symm, rfl⟩
      · rw [hb] at hq; exact .inl ⟨hq.symm, rfl⟩
    unfold BodyR at HBD2
    obtain ⟨q, hq⟩ : ∃ q : Int, (if badB (bodyW s.ws m) 16 = true then 9 else 0) = q := ⟨_, rfl⟩
    rw [hq] at HBD2
    have hqq := HEQ.out q hq
    have HBD3 := Lib.hid HBD2
    clear hb3 HBD2 hq x1 x2 x3 x4
    go_wp2_with fail
    refine HBD3.out.mono ?_
    rintro e w3 ⟨v, y, rfl, hv, hpm3, hk3, hy3⟩
    have HK3 := Lib.hid (((KX.of_below (X := X) HB2.out).trans (KX.drewN _ nq)).trans hk3)
    have HY : Hid (exB' s.ws → fx = 0 → y = 0) := fun h1 h2 => hy3 (HEX.out h1) h2
    have HPM3 := Lib.hid hpm3
    have HV := Lib.hid hv
    clear hk3 hy3 hpm3 hv HBD3
    rcases hqq with ⟨rfl, hbad⟩ | ⟨rfl, hbad⟩
    · have HMR : Hid (mvM s d = (s, d, 0)) := by show _ = _; rw [HMQ.out, hbad]; rfl
      clear hbad
      go_wp2_with fail
      go_ret
      rw [HMR.out]
      exact ⟨lf, y, rfl, HPM3.out, HK3.out, HY.out⟩
    · have HMR : Hid (mvM s d = putM s d j (bytesW s.ws m)) := by show _ = _; rw [HMQ.out, hbad]; rfl
      have hv2 := HV.out
      rw [hbad] at hv2
      have hv2 : OB w3 (w2.drewN nq).heap.size v (bytesW s.ws m) := hv2
      have hXW : ∀ k, X k → k < (w2.drewN nq).heap.size := fun k hk => Nat.lt_of_lt_of_le (HXX.out k hk) HB2.out.size
      have HPU3 := HPU.out w3 y HPM3.out (fun k hk => Nat.lt_of_lt_of_le (HXX.out k hk) HK3.out.size) v (bytesW s.ws m) hv2.sl (bytesW_len ..) (fun w4 hk4 => (hv2.kx hXW hk4).sl)
      obtain ⟨x1, x2⟩ := HC2.out w3 y HPM3.out
      have HPU4 := Lib.hid HPU3
      clear hbad hv2 HPU3
      unfold PutR at HPU4
      go_wp2_with fail
      refine HPU4.out.mono ?_
      rintro e w4 ⟨lf4, rfl, hpm4, hk4⟩
      go_wp2_with fail
      go_ret
      rw [HMR.out, HPT.out]
      exact ⟨lf4, y, rfl, hpm4, HK3.out.trans hk4, HY.out⟩

theorem putD_ok {N : Nat} (ho : OkD s d) {f i : Nat} (l : List UInt8) (hi : i < d.P) (hf : f < d.F) (ht : d.tm + 2 < 16777216) (hz : (runC s (pgL f (d.tm + 1) i l)).2 = 0) :
    OkD (runC s (pgL f (d.tm + 1) i l)).1 (putD d f i (runC s (pgL f (d.tm + 1) i l)).1.wr) ∧ freeB (putD d f i (runC s (pgL f (d.tm + 1) i l)).1.wr).fm (putD d f i (runC s (pgL f (d.tm + 1) i l)).1.wr).hm f = false := by
  refine ⟨⟨by rw [runC_on _ _ hz]; exact ho.on, by rw [runC_len]; exact ho.F, ho.P, fun j hj => ?_, fun j hj => ?_⟩, ?_⟩
  · show -1 ≤ (if j = f then (⟨(i : Int), d.tm + 1⟩ : Fr) else d.fm j).pg ∧ (if j = f then (⟨(i : Int), d.tm + 1⟩ : Fr) else d.fm j).pg < (d.P : Int)
    split
    · constructor
      · show (-1 : Int) ≤ (i : Int); omega
      · show (i : Int) < (d.P : Int); omega
    · exact ho.q j hj
  · show (if j = f then (⟨(i : Int), d.tm + 1⟩ : Fr) else d.fm j).tn < 281474976710656
    split
    · show d.tm + 1 < _; omega
    · exact ho.tb j hj
  · have h1 : ((putD d f i (runC s (pgL f (d.tm + 1) i l)).1.wr).fm f).pg = (i : Int) := by
      show (if f = f then (⟨(i : Int), d.tm + 1⟩ : Fr) else d.fm f).pg = _
      rw [if_pos rfl]
    rw [freeB_at h1]
    have h2 : (putD d f i (runC s (pgL f (d.tm + 1) i l)).1.wr).hm i = (f : Int) := by
      show (if i = i then (f : Int) else d.hm i) = _
      rw [if_pos rfl]
    rw [h2]
    simp
/-- Write, as data. -/
def wrtM (s : St) (d : PD) (i : Int) (l : List UInt8) : St × PD × Int := if l.length ≠ 48 then (s, d, 1) else if pacE s d i ≠ 0 then (s, d, pacE s d i) else wrM s d i.toNat l
def WrtR (X : Nat → Prop) (pb b g gf gh : Nat) (fx : Int) (C : Prop) (ws' : List Nat) (r : St × PD × Int) (w : World) (e : Ending) (w' : World) : Prop :=
  ∃ lf' fx', e = .returned (.int .i64 r.2.2) ∧ PM w' X pb b g gf gh r.1 lf' r.2.1 fx' ∧ KX X w w' ∧ ((C → exB' ws') → fx = 0 → fx' = 0)
set_option maxRecDepth 100000 in
set_option maxHeartbeats 1600000 in
theorem pwrite_any {N : Nat} (h : PM w X pb b g gf gh s lf d fx) (hF : Fine s N) (hN : N + 40 < 1000000) (hw : s.cu = d.cu → s.wr = d.wr ∧ OkD s d) (ht : d.tm + 2 < 16777216) (hX : ∀ k, X k → k < w.heap.size) (hFd : d.F = s.ws.length / 19) (i : Int)
    (v : Value) (l : List UInt8) (hv : SL w w.heap.size v l) (hvX : ∀ w2, KX X w w2 → SL w2 w2.heap.size v l) :
    Calls Tryd.prog 19 #[.pointer (some ⟨pb, 0, none⟩), .int .i64 i, v] w (WrtR X pb b g gf gh fx (l.length = 48 ∧ pacE s d i = 0) (putM s d i.toNat l).1.ws (wrtM s d i l) w) := by
  have HM := Lib.hid (pmade_any h.pg)
  have HA := pacc_any h (fun e => (hw e).1) i
  have HPM0 := Lib.hid h
  have hlm : l.length ≤ maxLen := by obtain ⟨_, _, _, h1, h2, _⟩ := hv; omega
  unfold maxLen at hlm
  obtain ⟨A, c, rfl, _, _, _⟩ := hv
  by_cases hl : l.length = 48
  · have HWT : Hid (wrtM s d i l = if pacE s d i ≠ 0 then (s, d, pacE s d i) else wrM s d i.toNat l) := by show _ = _; unfold wrtM; rw [if_neg (by simpa using hl)]
    have HVX : Hid (∀ w2, KX X w w2 → SL w2 w2.heap.size (.slice A 48 c) l) := by show ∀ w2, _; rw [← hl]; exact hvX
    rw [hl]
    by_cases hz : pacE s d i = 0
    · obtain ⟨q1, q2, q3⟩ := pac_in hz
      obtain ⟨j, rfl⟩ : ∃ j : Nat, i = j := ⟨i.toNat, by omega⟩
      have HWU : Hid (wrtM s d (j : Int) l = wrM s d j l) := by show _ = _; rw [HWT.out, if_neg (by rw [hz]; simp), Int.toNat_natCast]
      have HCC : Hid ((48 : Nat) = 48 ∧ pacE s d (j : Int) = 0) := ⟨rfl, hz⟩
      obtain ⟨CC, hCC⟩ : ∃ CC, ((48 : Nat) = 48 ∧ pacE s d (j : Int) = 0) = CC := ⟨_, rfl⟩
      rw [hCC] at HCC
      rw [hCC]
      clear hCC
      rw [hz] at HA
      have HA := Lib.hid HA
      have hj : j < d.P := by omega
      have ho := (hw q1).2
      obtain ⟨f, hf, hff, hfl, _, _⟩ := ok_first ho
      have HPT : Hid (putM s d j l = ((runC s (pgL f (d.tm + 1) j l)).1, if (runC s (pgL f (d.tm + 1) j l)).2 = 0 then putD d f j (runC s (pgL f (d.tm + 1) j l)).1.wr else d, (runC s (pgL f (d.tm + 1) j l)).2)) := by
        show _ = _
        unfold putM
        rw [hff, Int.toNat_natCast]
      have HPU := Lib.hid (fun n => put_page (h.drewN n) hF (by omega) ho.on f j hff hf hfl hj (by omega) ho.q (.slice A 48 c) l (HVX.out (w.drewN n) (KX.drewN _ _)) hl hX (fun w2 hk => HVX.out w2 ((KX.drewN _ _).trans hk)))
      have HMV := Lib.hid (fun (W : World) (lf2 : Nat) (y : Int) (hz : (runC s (pgL f (d.tm + 1) j l)).2 = 0) (hp : PM W X pb b g gf gh (runC s (pgL f (d.tm + 1) j l)).1 lf2 (putD d f j (runC s (pgL f (d.tm + 1) j l)).1.wr) y) (hs : w.heap.size ≤ W.heap.size) =>
        move_any hp (hF.runC _ (pgL_lt f (d.tm + 1) j l)) (by rw [pgL_len]; omega) (putD_ok (N := N) ho l hj hf ht hz).1 (by show d.tm + 1 + 1 < _; omega) (fun k hk => Nat.lt_of_lt_of_le (hX k hk) hs) (by rw [runC_len]; exact hFd) hf (putD_ok (N := N) ho l hj hf ht hz).2)
      clear h hw hF hX hFd hvX HWT q1 q2 q3 hz ho hff
      rw [HWU.out, Int.toNat_natCast]
      unfold wrM
      rw [HPT.out]
      clear HWU HPT
      generalize runC s (pgL f (d.tm + 1) j l) = r at *
      obtain ⟨u, q⟩ := r
      simp only at HPU HMV
      unfold PutR at HPU
      simp only
      by_cases hq : q = 0
      · subst hq
        have hPU : ∀ n, Calls Tryd.prog 56 #[.pointer (some ⟨pb, 0, none⟩), .int .i64 (j : Int), .slice A 48 c] (w.drewN n) fun e w' => ∃ lf', e = .returned (.int .i64 0) ∧ PM w' X pb b g gf gh u lf' (putD d f j u.wr) fx ∧ KX X (w.drewN n) w' := fun n => by
          have := HPU.out n
          simpa using this
        have hMV := fun (W : World) (lf2 : Nat) (y : Int) (hp : PM W X pb b g gf gh u lf2 (putD d f j u.wr) y) (hs : w.heap.size ≤ W.heap.size) => HMV.out W lf2 y rfl hp hs
        have HPU2 := Lib.hid hPU
        have HMV2 := Lib.hid hMV
        clear HPU HMV hPU hMV
        rw [if_neg (by simp), if_pos rfl]
        unfold MovR at HMV2
        generalize mvM u (putD d f j u.wr) = rr at *
        go_enter Tryd.func19, Tryd.ntmps19
        go_wp2_with (first
          | (go_at_call 54; refine HM.out.mono ?_; rintro e W1 ⟨rfl, hW1⟩; rw [hW1]; clear hW1 W1)
          | (go_at_call 55; refine HA.out.mono ?_; rintro e W1 ⟨rfl, n, hW1⟩; rw [hW1]; clear hW1 W1)
          | (go_at_call 56; refine (HPU2.out _).mono ?_; rintro e w2 ⟨lf2, rfl, hpm2, hk2⟩)
          | (go_at_call 57; refine (HMV2.out w2 lf2 fx hpm2 hk2.size).mono ?_; rintro e w3 ⟨lf3, y, rfl, hpm3, hk3, hy3⟩))
        go_ret
        exact ⟨lf3, y, rfl, hpm3, ((KX.drewN _ n).trans hk2).trans hk3, fun h1 h2 => hy3 (h1 HCC.out) h2⟩
      · have hPU : ∀ n, Calls Tryd.prog 56 #[.pointer (some ⟨pb, 0, none⟩), .int .i64 (j : Int), .slice A 48 c] (w.drewN n) fun e w' => ∃ lf', e = .returned (.int .i64 q) ∧ PM w' X pb b g gf gh u lf' d fx ∧ KX X (w.drewN n) w' := fun n => by
          have := HPU.out n
          simp only [if_neg hq] at this
          exact this
        have HPU2 := Lib.hid hPU
        clear HPU HMV hPU
        rw [if_pos hq, if_neg hq]
        have hqb : (q != 0) = true := by rw [bne_iff_ne]; exact hq
        have HQ := Lib.hid hq
        clear hq
        go_enter Tryd.func19, Tryd.ntmps19
        go_wp2_with (first
          | (go_at_call 54; refine HM.out.mono ?_; rintro e W1 ⟨rfl, hW1⟩; rw [hW1]; clear hW1 W1)
          | (go_at_call 55; refine HA.out.mono ?_; rintro e W1 ⟨rfl, n, hW1⟩; rw [hW1]; clear hW1 W1)
          | (go_at_call 56; refine (HPU2.out _).mono ?_; rintro e w2 ⟨lf2, rfl, hpm2, hk2⟩))
        go_ret
        exact ⟨lf2, fx, rfl, hpm2, (KX.drewN _ n).trans hk2, fun _ h => h⟩
    · have HWU : Hid (wrtM s d i l = (s, d, pacE s d i)) := by show _ = _; rw [HWT.out, if_pos hz]
      have hzb : (pacE s d i != 0) = true := by rw [bne_iff_ne]; exact hz
      have HA := Lib.hid HA
      clear h hw hF hX hFd hvX HWT hz
      rw [HWU.out]
      generalize pacE s d i = q at *
      go_enter Tryd.func19, Tryd.ntmps19
      go_wp2_with (first
        | (go_at_call 54; refine HM.out.mono ?_; rintro e W1 ⟨rfl, hW1⟩; rw [hW1]; clear hW1 W1)
        | (go_at_call 55; refine HA.out.mono ?_; rintro e W1 ⟨rfl, n, hW1⟩; rw [hW1]; clear hW1 W1))
      go_ret
      exact ⟨lf, fx, rfl, HPM0.out.drewN n, KX.drewN _ _, fun _ h => h⟩
  · have HWU : Hid (wrtM s d i l = (s, d, 1)) := by show _ = _; unfold wrtM; rw [if_pos hl]
    have hlb : ((l.length : Int) != 48) = true := by rw [bne_iff_ne]; omega
    clear h hw hF hX hFd hvX hl
    rw [HWU.out]
    generalize l.length = ln at *
    go_enter Tryd.func19, Tryd.ntmps19
    go_wp2_with (go_at_call 54; refine HM.out.mono ?_; rintro e W1 ⟨rfl, hW1⟩; rw [hW1]; clear hW1 W1)
    go_ret
    exact ⟨lf, fx, rfl, HPM0.out, KX.refl _ _, fun _ h => h⟩
end
end Go.Proofs.YtiholfpcndjliaaDoor
