/-
  The walks of Open, Read, moveEarliest, Write.
-/
import Derived.Test.YtiholfpcndjliaaDoorPgi
namespace Go.Proofs.YtiholfpcndjliaaDoor
set_option linter.unusedVariables false
set_option linter.unusedSimpArgs false
open Go.RowKit

section
variable {w w' : World} {X : Nat → Prop} {pb b g gf gh lf : Nat} {s : St} {d : PD} {fx : Int}
/-- Behind load: pages. -/
theorem pm_of_load {Y : Nat → Prop} (h : PH w Y pb b g s lf ⟨(s.cu : Int), .slice (some ⟨gf, 0, none⟩) (s.ws.length / 19) (s.ws.length / 19), .slice (some ⟨gh, 0, none⟩) (s.ws.length / 24) (s.ws.length / 24), .int .i64 (turnR (frM s.ws) (s.ws.length / 19) : Int), .int .i64 (s.wr : Int)⟩ fx)
    (hgf : GF w gf (s.ws.length / 19) (frM s.ws)) (hgh : GH w gh (s.ws.length / 24) (fun j => homeR (frM s.ws) j (s.ws.length / 19))) (h240 : 240 ≤ s.ws.length) (n3 : gf ≠ gh)
    (hX : ∀ k, Y k → X k) (x4 : X gf) (x5 : X gh) (e1 : ¬ Y gf) (e2 : ¬ Y gh) (y0 : ¬ X 0) (y1 : ¬ X 1) : PM w X pb b g gf gh s lf (ldD s.ws s.cu s.wr) fx := by
  have h2 := h.ma.n2
  have hne : ∀ k, Y k → k ≠ gf ∧ k ≠ gh := fun k hk => ⟨fun e => e1 (e ▸ hk), fun e => e2 (e ▸ hk)⟩
  exact ⟨h.ma, ⟨h.row, hgf.pg, hgf.tn, hgh.ho, hgf.fz, hgh.fz, (hne _ h.x1).1, (hne _ h.x1).2, n3, h.l1, hgf.lt, hgh.lt, by show s.ws.length / 19 ≤ 5000; omega, by show 1 ≤ s.ws.length / 24; omega, by show s.ws.length / 24 < s.ws.length / 19; omega⟩,
    hX _ h.x1, hX _ h.x2, hX _ h.x3, x4, x5, h.d1, h.d2, Ne.symm (hne _ h.x2).1, Ne.symm (hne _ h.x3).1, Ne.symm (hne _ h.x2).2, Ne.symm (hne _ h.x3).2, h.tb, y0, y1⟩

theorem popen_nil (w : World) (v : Value) (h : Dead w v) : Calls Tryd.prog 17 #[v] w fun e w' => e = .returned (.tuple #[.pointer none, .int .i64 31]) ∧ w' = w := by
  have HD := Lib.hid (words_dead w v h)
  clear h
  go_enter Tryd.func17, Tryd.ntmps17
  go_wp2_with (go_at_call 51; refine HD.out.mono ?_; rintro e w' ⟨rfl, rfl⟩)
  go_ret2
  exact ⟨rfl, rfl⟩
/-- What Open returns where it opens. -/
def OpenR (X : Nat → Prop) (b g lf : Nat) (s : St) (w : World) (e : Ending) (w' : World) : Prop :=
  KX X w w' ∧ if s.on = false then e = .returned (.tuple #[.pointer none, .int .i64 7]) ∧ w' = w else
    if s.ws.length < 240 then e = .returned (.tuple #[.pointer none, .int .i64 1]) ∧ w' = w else
    if ldB s.ws = true then ∃ pb gf gh fx, e = .returned (.tuple #[.pointer (some ⟨pb, 0, none⟩), .int .i64 0]) ∧ w.heap.size ≤ pb ∧ w.heap.size ≤ gf ∧ w.heap.size ≤ gh ∧
      PM w' (fun k => X k ∨ k = pb ∨ k = gf ∨ k = gh) pb b g gf gh s lf (ldD s.ws s.cu s.wr) fx ∧ (exH s.ws → fx = 0)
    else e = .returned (.tuple #[.pointer none, .int .i64 9]) ∧ MA w' b g s lf
set_option maxRecDepth 100000 in
set_option maxHeartbeats 1600000 in
theorem popen_any (hm : MA w b g s lf) (hT : Tb w) (hx1 : X b) (hx2 : X g) (hX : ∀ k, X k → k < w.heap.size ∧ 1 < k) (hF : ∀ a, s.ws.getD a 0 < 4294967296) :
    Calls Tryd.prog 17 #[.pointer (some ⟨b, 0, none⟩)] w (OpenR X b g lf s w) := by
  have hn1 := hm.n1
  have hn2 := hm.n2
  have HWD := words_any hm
  have HPW := power_any hm
  have HCU := Lib.hid (cuts_any hm)
  have HSZ := Lib.hid hm.ltb
  have HSZ2 := Lib.hid hm.ltg
  obtain ⟨n, hn⟩ : ∃ n, s.ws.length = n := ⟨_, rfl⟩
  rw [hn] at HWD hn1 hn2
  have HWD := Lib.hid HWD
  have HN := Lib.hid hn
  clear hn
  cases hon : s.on
  · rw [hon] at HPW
    have HPW := Lib.hid HPW
    have HON := Lib.hid hon
    clear hon
    go_enter Tryd.func17, Tryd.ntmps17
    go_wp2_with (first
      | (go_at_call 51; refine HWD.out.mono ?_; rintro e W1 ⟨rfl, hW1⟩; rw [hW1]; clear hW1 W1)
      | (go_at_call 46; refine HPW.out.mono ?_; rintro e W1 ⟨rfl, hW1⟩; rw [hW1]; clear hW1 W1))
    go_ret2
    refine ⟨KX.refl _ _, ?_⟩
    rw [if_pos HON.out]
    exact ⟨rfl, rfl⟩
  · rw [hon] at HPW
    have HPW := Lib.hid HPW
    have HON := Lib.hid hon
    clear hon
    by_cases h240 : n < 240
    · go_enter Tryd.func17, Tryd.ntmps17
      go_wp2_with (first
        | (go_at_call 51; refine HWD.out.mono ?_; rintro e W1 ⟨rfl, hW1⟩; rw [hW1]; clear hW1 W1)
        | (go_at_call 46; refine HPW.out.mono ?_; rintro e W1 ⟨rfl, hW1⟩; rw [hW1]; clear hW1 W1))
      go_ret2
      refine ⟨KX.refl _ _, ?_⟩
      rw [if_neg (by rw [HON.out]; simp), if_pos (by rw [HN.out]; exact h240)]
      exact ⟨rfl, rfl⟩
    · have hal := alloc_below w (.cells #[.pointer (some ⟨b, 0, none⟩), .int .i64 (s.cu : Int), .int .i64 0, .slice none 0 0, .slice none 0 0, .int .i64 0, .int .i64 0] 103)
      have HPH : PH (w.alloc (.cells #[.pointer (some ⟨b, 0, none⟩), .int .i64 (s.cu : Int), .int .i64 0, .slice none 0 0, .slice none 0 0, .int .i64 0, .int .i64 0] 103)) (fun k => X k ∨ k = w.heap.size) w.heap.size b g s lf ⟨(s.cu : Int), .slice none 0 0, .slice none 0 0, .int .i64 0, .int .i64 0⟩ 0 :=
        ⟨hm.on hal, heap_alloc_new _ _, .inr rfl, .inl hx1, .inl hx2, by have := hm.ltb; omega, by have := hm.ltg; omega, hT.on hal, fun e => by have := hT.size; rcases e with e | e; exact absurd (hX 0 e).2 (by omega); omega, fun e => by have := hT.size; rcases e with e | e; exact absurd (hX 1 e).2 (by omega); omega⟩
      have HL := Lib.hid (load_any HPH (fun k hk => by
        rw [alloc_size]; rcases hk with hk | hk
        · have := (hX k hk).1; omega
        · omega) hF HON.out)
      have HAL := Lib.hid hal
      have HXX := Lib.hid hX
      have HTS := Lib.hid hT.size
      clear HPH hal hm hT hX hF hx1 hx2
      unfold LoadR at HL
      go_enter Tryd.func17, Tryd.ntmps17
      go_wp2_with (first
        | (go_at_call 51; refine HWD.out.mono ?_; rintro e W1 ⟨rfl, hW1⟩; rw [hW1]; clear hW1 W1)
        | (go_at_call 46; refine HPW.out.mono ?_; rintro e W1 ⟨rfl, hW1⟩; rw [hW1]; clear hW1 W1)
        | (go_at_call 52; refine HCU.out.mono ?_; rintro e W1 ⟨rfl, hW1⟩; rw [hW1]; clear hW1 W1))
      refine HL.out.mono ?_
      rintro e w2 ⟨y, rfl, hy, hk2, ⟨R', hphr⟩, hpg⟩
      have HMA := Lib.hid hphr.ma
      clear hphr
      have hkk : KX X w w2 := ⟨hk2.os.trans HAL.out.os, hk2.tape.trans HAL.out.tape, hk2.output.trans HAL.out.output, Nat.le_trans HAL.out.size hk2.size, fun k hk hx => (hk2.block k (by rw [alloc_size]; omega) (fun e => by rcases e with e | e; exact hx e; omega)).trans (HAL.out.block k hk)⟩
      have HKK := Lib.hid hkk
      have HY := Lib.hid hy
      cases hb : ldB s.ws
      · have HB := Lib.hid hb
        clear hpg hkk hy hb hk2
        go_wp2_with fail
        go_ret2
        refine ⟨HKK.out, ?_⟩
        rw [if_neg (by rw [HON.out]; simp), if_neg (by rw [HN.out]; omega), if_neg (by rw [HB.out]; simp)]
        exact ⟨rfl, HMA.out⟩
      · obtain ⟨gf, gh, h1, h2, h3, hgf, hgh, hph⟩ := hpg hb
        have HB := Lib.hid hb
        rw [alloc_size] at h1 h2
        have hpm := pm_of_load (X := fun k => X k ∨ k = w.heap.size ∨ k = gf ∨ k = gh) hph hgf hgh (by rw [HN.out]; omega) h3 (fun k hk => by rcases hk with hk | hk; exact .inl hk; exact .inr (.inl hk)) (.inr (.inr (.inl rfl))) (.inr (.inr (.inr rfl)))
          (fun e => by rcases e with e | e; have := (HXX.out _ e).1; omega; omega) (fun e => by rcases e with e | e; have := (HXX.out _ e).1; omega; omega)
          (fun e => by have := HTS.out; rcases e with e | e | e | e; exact absurd (HXX.out 0 e).2 (by omega); omega; omega; omega) (fun e => by have := HTS.out; rcases e with e | e | e | e; exact absurd (HXX.out 1 e).2 (by omega); omega; omega; omega)
        have HPM := Lib.hid hpm
        clear hpm hph hgf hgh hpg hkk hy hb hk2
        go_wp2_with fail
        go_ret2
        refine ⟨HKK.out, ?_⟩
        rw [if_neg (by rw [HON.out]; simp), if_neg (by rw [HN.out]; omega), if_pos HB.out]
        exact ⟨w.heap.size, gf, gh, y, rfl, Nat.le_refl _, by omega, by omega, HPM.out, HY.out⟩

/-- The bytes of page i, as the pages find them. -/
def dpage (d : PD) (ws : List Nat) (i : Nat) : List UInt8 := if d.hm i = -1 then List.replicate 48 0 else bytesW ws (d.hm i).toNat
def rdE (s : St) (d : PD) (i : Int) : Int := if pacE s d i ≠ 0 then pacE s d i else if d.hm i.toNat = -1 then 0 else if badB (bodyW s.ws (d.hm i.toNat).toNat) 16 = true then 9 else 0
/-- The words of all bodies are right. -/
def exB' (ws : List Nat) : Prop := ∀ f k, f < ws.length / 19 → k < 16 → decH (ws.getD (f * 19 + 3 + k) 0) = 0
def ReadR (X : Nat → Prop) (pb b g gf gh lf : Nat) (s : St) (d : PD) (fx : Int) (i : Int) (w : World) (e : Ending) (w' : World) : Prop :=
  ∃ v fx', e = .returned (.tuple #[v, .int .i64 (rdE s d i)]) ∧ OB w' w.heap.size v (if rdE s d i = 0 then dpage d s.ws i.toNat else []) ∧ PM w' X pb b g gf gh s lf d fx' ∧ KX X w w' ∧ (exB' s.ws → fx = 0 → fx' = 0)
theorem pac_in {s : St} {d : PD} {i : Int} (h : pacE s d i = 0) : s.cu = d.cu ∧ 0 ≤ i ∧ i < (d.P : Int) := by
  unfold pacE at h
  by_cases h1 : s.cu ≠ d.cu
  · rw [if_pos h1] at h; omega
  · rw [if_neg h1] at h
    by_cases h2 : 0 ≤ i ∧ i < (d.P : Int)
    · exact ⟨by simpa using h1, h2⟩
    · rw [if_neg h2] at h; omega
set_option maxRecDepth 100000 in
set_option maxHeartbeats 1600000 in
theorem pread_any (h : PM w X pb b g gf gh s lf d fx) (hw : s.cu = d.cu → s.wr = d.wr ∧ s.on = true) (hX : ∀ k, X k → k < w.heap.size) (hF : ∀ a, s.ws.getD a 0 < 4294967296)
    (hh : ∀ j : Nat, j < d.P → d.hm j = -1 ∨ ∃ m : Nat, m * 19 + 19 ≤ s.ws.length ∧ d.hm j = m) (hd : d.F = s.ws.length / 19) (i : Int) :
    Calls Tryd.prog 22 #[.pointer (some ⟨pb, 0, none⟩), .int .i64 i] w (ReadR X pb b g gf gh lf s d fx i w) := by
  have HM := Lib.hid (pmade_any h.pg)
  have HA := pacc_any h (fun e => (hw e).1) i
  have hrf : d.P < d.F := h.pg.p2
  have hf1 := h.pg.f1
  by_cases hz : pacE s d i = 0
  · obtain ⟨q1, q2, q3⟩ := pac_in hz
    obtain ⟨j, rfl⟩ : ∃ j : Nat, i = j := ⟨i.toNat, by omega⟩
    rw [hz] at HA
    have HA := Lib.hid HA
    have hj : j < d.P := by omega
    have HRE : Hid (rdE s d (j : Int) = if d.hm j = -1 then 0 else if badB (bodyW s.ws (d.hm j).toNat) 16 = true then 9 else 0) := by show _ = _; unfold rdE; rw [if_neg (by rw [hz]; simp), Int.toNat_natCast]
    have HDP : Hid (dpage d s.ws j = if d.hm j = -1 then List.replicate 48 0 else bytesW s.ws (d.hm j).toNat) := rfl
    have hon := (hw q1).2
    have c4 := cell_of_row _ _ 4 _ _ _ h.pg.row
    unfold prow at c4
    have xh := h.pg.ho j hj
    have hho := hh j hj
    have HPM := Lib.hid h
    have HFI := Lib.hid hF
    have HXX := Lib.hid hX
    have HON := Lib.hid hon
    have HDF := Lib.hid hd
    clear h hw hX hF hh hd q1 q2 hz hon
    rcases hho with hho | ⟨m, hm, hho⟩
    · rw [hho] at xh HRE HDP
      have HRF : Hid (rdE s d (j : Int) = 0) := HRE.out
      have HDQ : Hid (dpage d s.ws j = List.replicate 48 0) := HDP.out
      clear hho HRE HDP
      go_enter Tryd.func22, Tryd.ntmps22
      go_wp2_with (first
        | (go_at_call 54; refine HM.out.mono ?_; rintro e W1 ⟨rfl, hW1⟩; rw [hW1]; clear hW1 W1)
        | (go_at_call 55; refine HA.out.mono ?_; rintro e W1 ⟨rfl, n, hW1⟩; rw [hW1]; clear hW1 W1)
        | (at_make; refine wpList_mk rfl _ _ rfl .i64 .i64 _ _ 48 rfl rfl rfl rfl (by omega) ?_; intro w1 hown1 hb1))
      go_ret2
      refine ⟨_, fx, by rw [HRF.out]; rfl, ?_, (HPM.out.drewN n).on hb1, (KX.drewN _ _).trans (KX.of_below hb1), fun _ h => h⟩
      rw [if_pos HRF.out, Int.toNat_natCast, HDQ.out]
      exact hown1
    · rw [hho] at xh HRE HDP
      rw [Int.toNat_natCast] at HRE HDP
      have HRF : Hid (rdE s d (j : Int) = if badB (bodyW s.ws m) 16 = true then 9 else 0) := by show _ = _; rw [HRE.out, if_neg (by omega)]
      have HDQ : Hid (dpage d s.ws j = bytesW s.ws m) := by show _ = _; rw [HDP.out, if_neg (by omega)]
      clear HRE HDP
      have HBD := Lib.hid (fun n => pbody_any2 (HPM.out.drewN n) HXX.out HFI.out HON.out m hm)
      have hmb : ((m : Int) == -1) = false := by rw [beq_eq_false_iff_ne]; omega
      have hmF : m < s.ws.length / 19 := by omega
      have HEX : Hid (exB' s.ws → ∀ k, k < 16 → decH (s.ws.getD (m * 19 + 3 + k) 0) = 0) := fun h k hk => h m k hmF hk
      clear hho
      unfold BodyR at HBD
      have HQE : Hid (∀ q : Int, q = (if badB (bodyW s.ws m) 16 = true then 9 else 0) → rdE s d (j : Int) = q) := fun q hq => by rw [HRF.out, hq]
      obtain ⟨q, hq⟩ : ∃ q : Int, (if badB (bodyW s.ws m) 16 = true then 9 else 0) = q := ⟨_, rfl⟩
      rw [hq] at HBD
      have HQ := Lib.hid hq
      clear hq
      go_enter Tryd.func22, Tryd.ntmps22
      go_wp2_with (first
        | (go_at_call 54; refine HM.out.mono ?_; rintro e W1 ⟨rfl, hW1⟩; rw [hW1]; clear hW1 W1)
        | (go_at_call 55; refine HA.out.mono ?_; rintro e W1 ⟨rfl, n, hW1⟩; rw [hW1]; clear hW1 W1)
        | (go_at_call 58; refine (HBD.out _).mono ?_; rintro e w2 ⟨v, y, rfl, hv, hpm2, hk2, hy2⟩))
      go_ret2
      refine ⟨v, y, by rw [HQE.out q HQ.out.symm]; rfl, ?_, hpm2, (KX.drewN _ n).trans hk2, fun h1 h2 => hy2 (HEX.out h1) h2⟩
      rw [HRF.out, Int.toNat_natCast, HDQ.out]
      cases hb : badB (bodyW s.ws m) 16
      · rw [hb] at hv; exact hv
      · rw [hb] at hv; exact hv
  · have HRE : Hid (rdE s d i = pacE s d i) := by show _ = _; unfold rdE; rw [if_pos hz]
    have hzb : (pacE s d i != 0) = true := by rw [bne_iff_ne]; exact hz
    have HZ := Lib.hid hz
    have HPM := Lib.hid h
    have HA := Lib.hid HA
    clear h hw hX hF hh hd hz
    generalize pacE s d i = q at *
    go_enter Tryd.func22, Tryd.ntmps22
    go_wp2_with (first
      | (go_at_call 54; refine HM.out.mono ?_; rintro e W1 ⟨rfl, hW1⟩; rw [hW1]; clear hW1 W1)
      | (go_at_call 55; refine HA.out.mono ?_; rintro e W1 ⟨rfl, n, hW1⟩; rw [hW1]; clear hW1 W1))
    go_ret2
    refine ⟨_, fx, by rw [HRE.out]; rfl, ?_, HPM.out.drewN n, KX.drewN _ _, fun _ h => h⟩
    rw [if_neg (by rw [HRE.out]; exact HZ.out)]
    exact OB.nil _ _
end
end Go.Proofs.YtiholfpcndjliaaDoor
