/-
  Accept: the walk of the program (gen5_acc.py).
-/
import Derived.Test.YtnbggokmiokhlaaDoorAxc
namespace Go.Proofs.YtnbggokmiokhlaaDoor
set_option linter.unusedVariables false
set_option linter.unusedSimpArgs false
open Go.RowKit

/-- Whether the answer s carries the further byte i, and the request r another. -/
def furB (r s : List UInt8) (i : Nat) : Bool := ((ppsF s i).length != 0) && !(ppsF s i == ppsF r i)
def accE (r s : List UInt8) : Int := if ppsE r = 0 then (if ppsE s = 0 then (if ppsP s = ppsP r then (if (furB r s 0 || furB r s 1 || furB r s 2) = true then 28 else 0) else 28) else ppsE s) else ppsE r
def accP (r s : List UInt8) : Int := if accE r s = 0 then ppsP s else 0
def AccR (r s : List UInt8) (w : World) (e : Ending) (w' : World) : Prop :=
  e = .returned (.tuple #[.int .i64 (accP r s), .int .i64 (accE r s)]) ∧ Below w.heap.size w w'
theorem acc_bad {r s : List UInt8} {w w' : World} {e : Ending} (E : Int) (hE : accE r s = E) (h0 : E ≠ 0) (he : e = .returned (.tuple #[.int .i64 0, .int .i64 E])) (hB : Below w.heap.size w w') : AccR r s w e w' := by
  subst he
  have e1 : accP r s = 0 := by unfold accP; rw [if_neg (by omega)]
  exact ⟨by rw [e1, hE], hB⟩
theorem FurAt.on {w W : World} {v : Value} {l : List UInt8} (h : FurAt w v l) (hW : Below w.heap.size w W) : FurAt W v l := ⟨h.1.on hW, h.2⟩
theorem fur_pack {w : World} {v u : Value} {L M : List UInt8} (hv : FurAt w v L) (hu : FurAt w u M) :
    ∃ G e F d n m q, v = .slice G n e ∧ u = .slice F m d ∧ (n = 0 → (Value.slice G n e) = .slice none 0 0) ∧ (n ≠ 0 → ∃ p, G = some p) ∧ ((L.length != 0) && !(L == M)) = ((n != 0) && !q) ∧
      ∀ W, Below w.heap.size w W → Calls Tryd.prog 56 #[.slice G n e, .slice F m d] W fun x w' => x = .returned (.bool q) ∧ W = w' := by
  have HC := fun (W : World) (hW : Below w.heap.size w W) => beq_any L M v u W W.heap.size (hv.1.on hW) (hu.1.on hW)
  obtain ⟨hv1, hv2⟩ := hv
  obtain ⟨hu1, hu2⟩ := hu
  obtain ⟨G, e, rfl, _, _, h3⟩ := hv1
  obtain ⟨F, d, rfl, _, _, _⟩ := hu1
  refine ⟨G, e, F, d, L.length, M.length, (L == M), rfl, rfl, fun h => hv2 (List.eq_nil_of_length_eq_zero h), fun h => ?_, rfl, HC⟩
  obtain ⟨b, o, hp, _⟩ := h3 (by omega)
  exact ⟨_, hp⟩

set_option maxRecDepth 100000 in
set_option maxHeartbeats 6400000 in
theorem pacc_any (r s : List UInt8) (v u : Value) (w : World) (hr : SL w w.heap.size v r) (hs : SL w w.heap.size u s) (lr : r.length ≤ 1000) (ls : s.length ≤ 1000) (hT : Tb w) :
    Calls Tryd.prog 35 #[v, u] w (AccR r s w) := by
  have HP := Lib.hid (fun (W : World) (hW : Below w.heap.size w W) => ppar_any r v W (hr.on hW) (hT.on hW) lr)
  have HQ := Lib.hid (fun (W : World) (hW : Below w.heap.size w W) => ppar_any s u W (hs.on hW) (hT.on hW) ls)
  obtain ⟨Ar, cr, rfl, _, _, _⟩ := hr
  obtain ⟨As, cs, rfl, _, _, _⟩ := hs
  have HE : Hid (accE r s = if ppsE r = 0 then (if ppsE s = 0 then (if ppsP s = ppsP r then (if (furB r s 0 || furB r s 1 || furB r s 2) = true then 28 else 0) else 28) else ppsE s) else ppsE r) := rfl
  have HAP : Hid (accP r s = if accE r s = 0 then ppsP s else 0) := rfl
  have K0 : Hid (furB r s 0 = (((ppsF s 0).length != 0) && !(ppsF s 0 == ppsF r 0))) := rfl
  have K1 : Hid (furB r s 1 = (((ppsF s 1).length != 0) && !(ppsF s 1 == ppsF r 1))) := rfl
  have K2 : Hid (furB r s 2 = (((ppsF s 2).length != 0) && !(ppsF s 2 == ppsF r 2))) := rfl
  unfold PpsR at HP HQ
  clear hT
  generalize ppsE r = E at *
  generalize ppsE s = F at *
  generalize ppsP r = p at *
  generalize ppsP s = q at *
  have HB0 := Lib.hid (Below.refl w.heap.size w)
  by_cases x0 : E = 0
  case neg =>
    have HB := Lib.hid (fun (w' : World) (e : Ending) => acc_bad (r := r) (s := s) (w := w) (w' := w') (e := e) E (by rw [HE.out, if_neg x0]) x0)
    have hn : (E != 0) = true := by rw [bne_iff_ne]; exact x0
    go_enter Tryd.func35, Tryd.ntmps35
    go_wp2_with fail
    refine (HP.out _ HB0.out).mono ?_
    rintro e w1 ⟨f0, f1, f2, rfl, s0, s1, s2, hb1⟩
    have HB1 := Lib.hid hb1
    obtain ⟨F0, d0, e0, _⟩ := s0.1
    subst e0
    obtain ⟨F1, d1, e1, _⟩ := s1.1
    subst e1
    obtain ⟨F2, d2, e2, _⟩ := s2.1
    subst e2
    clear hb1 s0 s1 s2
    go_wp2_with fail
    go_ret2
    exact HB.out _ _ rfl (HB1.out.trans ((alloc_below _ _).mono HB1.out.size))
  subst x0
  have HE1 : Hid (accE r s = if F = 0 then (if q = p then (if (furB r s 0 || furB r s 1 || furB r s 2) = true then 28 else 0) else 28) else F) := by show _ = _; rw [HE.out]; rfl
  clear HE
  by_cases x1 : F = 0
  case neg =>
    have HB := Lib.hid (fun (w' : World) (e : Ending) => acc_bad (r := r) (s := s) (w := w) (w' := w') (e := e) F (by rw [HE1.out, if_neg x1]) x1)
    have hn : (F != 0) = true := by rw [bne_iff_ne]; exact x1
    go_enter Tryd.func35, Tryd.ntmps35
    go_wp2_with fail
    refine (HP.out _ HB0.out).mono ?_
    rintro e w1 ⟨f0, f1, f2, rfl, s0, s1, s2, hb1⟩
    obtain ⟨F0, d0, e0, _⟩ := s0.1
    subst e0
    obtain ⟨F1, d1, e1, _⟩ := s1.1
    subst e1
    obtain ⟨F2, d2, e2, _⟩ := s2.1
    subst e2
    have HB1 := Lib.hid (hb1.trans ((alloc_below w1 (.cells #[.int .i64 p, .slice F0 (ppsF r 0).length d0, .slice F1 (ppsF r 1).length d1, .slice F2 (ppsF r 2).length d2] 71)).mono hb1.size))
    clear hb1 s0 s1 s2
    go_wp2_with fail
    generalize w1.alloc (.cells #[.int .i64 p, .slice F0 (ppsF r 0).length d0, .slice F1 (ppsF r 1).length d1, .slice F2 (ppsF r 2).length d2] 71) = w2 at *
    refine (HQ.out _ HB1.out).mono ?_
    rintro e w3 ⟨g0, g1, g2, rfl, s0, s1, s2, hb3⟩
    have HB3 := Lib.hid (HB1.out.trans (hb3.mono HB1.out.size))
    obtain ⟨G0, d0, e0, _⟩ := s0.1
    subst e0
    obtain ⟨G1, d1, e1, _⟩ := s1.1
    subst e1
    obtain ⟨G2, d2, e2, _⟩ := s2.1
    subst e2
    clear hb3 s0 s1 s2
    go_wp2_with fail
    go_ret2
    exact HB.out _ _ rfl (HB3.out.trans ((alloc_below _ _).mono HB3.out.size))
  subst x1
  have HE2 : Hid (accE r s = if q = p then (if (furB r s 0 || furB r s 1 || furB r s 2) = true then 28 else 0) else 28) := by show _ = _; rw [HE1.out]; rfl
  clear HE1
  go_enter Tryd.func35, Tryd.ntmps35
  go_wp2_with fail
  refine (HP.out _ HB0.out).mono ?_
  rintro e w1 ⟨f0, f1, f2, rfl, s0, s1, s2, hb1⟩
  have S0 := Lib.hid s0
  have S1 := Lib.hid s1
  have S2 := Lib.hid s2
  obtain ⟨F0, d0, e0, _⟩ := s0.1
  subst e0
  obtain ⟨F1, d1, e1, _⟩ := s1.1
  subst e1
  obtain ⟨F2, d2, e2, _⟩ := s2.1
  subst e2
  generalize (ppsF r 0).length = m0 at *
  generalize (ppsF r 1).length = m1 at *
  generalize (ppsF r 2).length = m2 at *
  have hal := alloc_below w1 (.cells #[.int .i64 p, .slice F0 m0 d0, .slice F1 m1 d1, .slice F2 m2 d2] 71)
  have HA2 := Lib.hid hal
  have HR2 := Lib.hid (heap_alloc_new w1 (.cells #[.int .i64 p, .slice F0 m0 d0, .slice F1 m1 d1, .slice F2 m2 d2] 71))
  have HB2 := Lib.hid (hb1.trans (hal.mono hb1.size))
  clear hb1 s0 s1 s2 hal
  go_wp2_with fail
  generalize w1.alloc (.cells #[.int .i64 p, .slice F0 m0 d0, .slice F1 m1 d1, .slice F2 m2 d2] 71) = w2 at *
  refine (HQ.out _ HB2.out).mono ?_
  rintro e w3 ⟨g0, g1, g2, rfl, t0, t1, t2, hb3⟩
  have HB3 := Lib.hid (HB2.out.trans (hb3.mono HB2.out.size))
  have HR3 := Lib.hid ((hb3.block _ (row_lt HR2.out)).trans HR2.out)
  have hw3 : Below w1.heap.size w1 w3 := HA2.out.trans (hb3.mono HA2.out.size)
  obtain ⟨G0, c0, X0, y0, n0, o0, q0, rfl, z0, a0, b0, k0, h0⟩ := fur_pack t0 (S0.out.on hw3)
  obtain ⟨G1, c1, X1, y1, n1, o1, q1, rfl, z1, a1, b1, k1, h1⟩ := fur_pack t1 (S1.out.on hw3)
  obtain ⟨G2, c2, X2, y2, n2, o2, q2, rfl, z2, a2, b2, k2, h2⟩ := fur_pack t2 (S2.out.on hw3)
  cases z0
  cases z1
  cases z2
  have J0 := Lib.hid (K0.out.trans k0)
  have J1 := Lib.hid (K1.out.trans k1)
  have J2 := Lib.hid (K2.out.trans k2)
  have A0 := Lib.hid a0
  have A1 := Lib.hid a1
  have A2 := Lib.hid a2
  have B0 := Lib.hid b0
  have B1 := Lib.hid b1
  have B2 := Lib.hid b2
  have H0 := Lib.hid h0
  have H1 := Lib.hid h1
  have H2 := Lib.hid h2
  clear K0 K1 K2 S0 S1 S2 k0 k1 k2 a0 a1 a2 b0 b1 b2 h0 h1 h2 t0 t1 t2 hb3 hw3
  have hal := alloc_below w3 (.cells #[.int .i64 q, .slice G0 n0 c0, .slice G1 n1 c1, .slice G2 n2 c2] 71)
  have HA4 := Lib.hid hal
  have HR4 := Lib.hid ((hal.block _ (row_lt HR3.out)).trans HR3.out)
  have HX4 := Lib.hid (heap_alloc_new w3 (.cells #[.int .i64 q, .slice G0 n0 c0, .slice G1 n1 c1, .slice G2 n2 c2] 71))
  have HB4 := Lib.hid (HB3.out.trans (hal.mono HB3.out.size))
  clear hal
  obtain ⟨r0, r1, r2, r3⟩ := cellsA HR4.out
  by_cases x2 : q = p
  case neg =>
    have HB := Lib.hid (fun (w' : World) (e : Ending) => acc_bad (r := r) (s := s) (w := w) (w' := w') (e := e) 28 (by rw [HE2.out, if_neg x2]) (by decide))
    have hn : (q != p) = true := by rw [bne_iff_ne]; exact x2
    go_wp2_with fail
    go_ret2
    exact HB.out _ _ rfl HB4.out
  subst x2
  have HE3 : Hid (accE r s = if (furB r s 0 || furB r s 1 || furB r s 2) = true then 28 else 0) := by show _ = _; rw [HE2.out, if_pos rfl]
  clear HE2
  have hqq : (q != q) = false := by simp
  obtain ⟨x0, x1, x2, x3⟩ := cellsA HX4.out
  go_wp2_with fail
  generalize w3.alloc (.cells #[.int .i64 q, .slice G0 n0 c0, .slice G1 n1 c1, .slice G2 n2 c2] 71) = W4 at *
  clear r0 r1 r2 r3 x0 x1 x2 x3
  go_loopw [34] (fun i wr => ∃ k : Nat, k ≤ 3 ∧ i = .int .i64 k ∧ Hid (Below W4.heap.size W4 wr) ∧ Hid (∀ j, j < k → furB r s j = false)) (fun i _ => 3 - (intOf i).toNat)
  case atStart => exact ⟨0, by omega, rfl, Below.refl _ _, fun j hj => absurd hj (by omega)⟩
  case round =>
    obtain ⟨k, hk, rfl, HB, HJ⟩ := hrel
    have hBB := HB4.out.trans (HB.out.mono HB4.out.size)
    have HBB := Lib.hid hBB
    clear hBB
    by_cases hk3 : k < 3
    case neg =>
      obtain rfl : k = 3 := by omega
      have HZ : Hid (accE r s = 0) := by show _ = _; rw [HE3.out, HJ.out 0 (by omega), HJ.out 1 (by omega), HJ.out 2 (by omega)]; rfl
      obtain ⟨x0, x1, x2, x3⟩ := cellsA ((HB.out.block _ (row_lt HX4.out)).trans HX4.out)
      go_wp2_with fail
      go_ret2
      exact ⟨by rw [HAP.out, HZ.out, if_pos rfl]; rfl, HBB.out⟩
    have h3 : k = 0 ∨ k = 1 ∨ k = 2 := by omega
    obtain ⟨r0, r1, r2, r3⟩ := cellsA ((HB.out.block _ (row_lt HR4.out)).trans HR4.out)
    rcases h3 with rfl | rfl | rfl
    · have HST : Hid (furB r s 0 = false → ∀ j, j < 0 + 1 → furB r s j = false) := fun h j hj => by
        rcases Nat.lt_or_ge j 0 with e | e
        · exact HJ.out j e
        · obtain rfl : j = 0 := by omega
          exact h
      by_cases hz : n0 = 0
      · have hF : furB r s 0 = false := by rw [J0.out, hz]; rfl
        have hnil := A0.out hz
        injection hnil with u1 u2 u3
        have HF := Lib.hid hF
        clear hF
        clear A0 B0
        subst u1 u3 hz
        have idx : ∀ W, (Instr.index 69 (.agg #[.slice none 0 0, .slice G1 n1 c1, .slice G2 n2 c2]) (.int .i64 0)).run Tryd.prog W = .ok (.slice none 0 0) W := fun _ => by kernel_rfl
        have qn : ∀ W : World, (binOp .neq 24 (.slice none 0 0) (.slice none 0 0)).run Tryd.prog W = .ok (.bool false) W := fun W => by kernel_rfl
        go_wp2_with fail
        go_roundw
        case rel => exact ⟨0 + 1, by omega, by go_num, HB.out, HST.out HF.out⟩
        case measure => simp [intOf]
      · obtain ⟨pt, hpt⟩ := B0.out hz
        subst hpt
        have HWC := Lib.hid (H0.out _ (HA4.out.trans (HB.out.mono HA4.out.size)))
        have idx : ∀ W, (Instr.index 69 (.agg #[.slice (some pt) n0 c0, .slice G1 n1 c1, .slice G2 n2 c2]) (.int .i64 0)).run Tryd.prog W = .ok (.slice (some pt) n0 c0) W := fun _ => by kernel_rfl
        have qn : ∀ W : World, (binOp .neq 24 (.slice (some pt) n0 c0) (.slice none 0 0)).run Tryd.prog W = .ok (.bool true) W := fun W => by kernel_rfl
        have HF : Hid (furB r s 0 = !q0) := by show _ = _; rw [J0.out, bne_iff_ne.2 hz]; rfl
        go_wp2_with fail
        refine HWC.out.mono ?_
        rintro e w5 ⟨rfl, rfl⟩
        cases q0 with
        | false =>
          have HB7 := Lib.hid (fun (w' : World) (e : Ending) => acc_bad (r := r) (s := s) (w := w) (w' := w') (e := e) 28 (by rw [HE3.out, HF.out]; simp) (by decide))
          go_wp2_with fail
          go_ret2
          exact HB7.out _ _ rfl HBB.out
        | true =>
          go_wp2_with fail
          go_roundw
          case rel => exact ⟨0 + 1, by omega, by go_num, HB.out, HST.out HF.out⟩
          case measure => simp [intOf]
    · have HST : Hid (furB r s 1 = false → ∀ j, j < 1 + 1 → furB r s j = false) := fun h j hj => by
        rcases Nat.lt_or_ge j 1 with e | e
        · exact HJ.out j e
        · obtain rfl : j = 1 := by omega
          exact h
      by_cases hz : n1 = 0
      · have hF : furB r s 1 = false := by rw [J1.out, hz]; rfl
        have hnil := A1.out hz
        injection hnil with u1 u2 u3
        have HF := Lib.hid hF
        clear hF
        clear A1 B1
        subst u1 u3 hz
        have idx : ∀ W, (Instr.index 69 (.agg #[.slice G0 n0 c0, .slice none 0 0, .slice G2 n2 c2]) (.int .i64 1)).run Tryd.prog W = .ok (.slice none 0 0) W := fun _ => by kernel_rfl
        have qn : ∀ W : World, (binOp .neq 24 (.slice none 0 0) (.slice none 0 0)).run Tryd.prog W = .ok (.bool false) W := fun W => by kernel_rfl
        go_wp2_with fail
        go_roundw
        case rel => exact ⟨1 + 1, by omega, by go_num, HB.out, HST.out HF.out⟩
        case measure => simp [intOf]
      · obtain ⟨pt, hpt⟩ := B1.out hz
        subst hpt
        have HWC := Lib.hid (H1.out _ (HA4.out.trans (HB.out.mono HA4.out.size)))
        have idx : ∀ W, (Instr.index 69 (.agg #[.slice G0 n0 c0, .slice (some pt) n1 c1, .slice G2 n2 c2]) (.int .i64 1)).run Tryd.prog W = .ok (.slice (some pt) n1 c1) W := fun _ => by kernel_rfl
        have qn : ∀ W : World, (binOp .neq 24 (.slice (some pt) n1 c1) (.slice none 0 0)).run Tryd.prog W = .ok (.bool true) W := fun W => by kernel_rfl
        have HF : Hid (furB r s 1 = !q1) := by show _ = _; rw [J1.out, bne_iff_ne.2 hz]; rfl
        go_wp2_with fail
        refine HWC.out.mono ?_
        rintro e w5 ⟨rfl, rfl⟩
        cases q1 with
        | false =>
          have HB7 := Lib.hid (fun (w' : World) (e : Ending) => acc_bad (r := r) (s := s) (w := w) (w' := w') (e := e) 28 (by rw [HE3.out, HF.out]; simp) (by decide))
          go_wp2_with fail
          go_ret2
          exact HB7.out _ _ rfl HBB.out
        | true =>
          go_wp2_with fail
          go_roundw
          case rel => exact ⟨1 + 1, by omega, by go_num, HB.out, HST.out HF.out⟩
          case measure => simp [intOf]
    · have HST : Hid (furB r s 2 = false → ∀ j, j < 2 + 1 → furB r s j = false) := fun h j hj => by
        rcases Nat.lt_or_ge j 2 with e | e
        · exact HJ.out j e
        · obtain rfl : j = 2 := by omega
          exact h
      by_cases hz : n2 = 0
      · have hF : furB r s 2 = false := by rw [J2.out, hz]; rfl
        have hnil := A2.out hz
        injection hnil with u1 u2 u3
        have HF := Lib.hid hF
        clear hF
        clear A2 B2
        subst u1 u3 hz
        have idx : ∀ W, (Instr.index 69 (.agg #[.slice G0 n0 c0, .slice G1 n1 c1, .slice none 0 0]) (.int .i64 2)).run Tryd.prog W = .ok (.slice none 0 0) W := fun _ => by kernel_rfl
        have qn : ∀ W : World, (binOp .neq 24 (.slice none 0 0) (.slice none 0 0)).run Tryd.prog W = .ok (.bool false) W := fun W => by kernel_rfl
        go_wp2_with fail
        go_roundw
        case rel => exact ⟨2 + 1, by omega, by go_num, HB.out, HST.out HF.out⟩
        case measure => simp [intOf]
      · obtain ⟨pt, hpt⟩ := B2.out hz
        subst hpt
        have HWC := Lib.hid (H2.out _ (HA4.out.trans (HB.out.mono HA4.out.size)))
        have idx : ∀ W, (Instr.index 69 (.agg #[.slice G0 n0 c0, .slice G1 n1 c1, .slice (some pt) n2 c2]) (.int .i64 2)).run Tryd.prog W = .ok (.slice (some pt) n2 c2) W := fun _ => by kernel_rfl
        have qn : ∀ W : World, (binOp .neq 24 (.slice (some pt) n2 c2) (.slice none 0 0)).run Tryd.prog W = .ok (.bool true) W := fun W => by kernel_rfl
        have HF : Hid (furB r s 2 = !q2) := by show _ = _; rw [J2.out, bne_iff_ne.2 hz]; rfl
        go_wp2_with fail
        refine HWC.out.mono ?_
        rintro e w5 ⟨rfl, rfl⟩
        cases q2 with
        | false =>
          have HB7 := Lib.hid (fun (w' : World) (e : Ending) => acc_bad (r := r) (s := s) (w := w) (w' := w') (e := e) 28 (by rw [HE3.out, HF.out]; simp) (by decide))
          go_wp2_with fail
          go_ret2
          exact HB7.out _ _ rfl HBB.out
        | true =>
          go_wp2_with fail
          go_roundw
          case rel => exact ⟨2 + 1, by omega, by go_num, HB.out, HST.out HF.out⟩
          case measure => simp [intOf]
end Go.Proofs.YtnbggokmiokhlaaDoor
