/-
  Answer: the walk of the reference.
-/
import Derived.Test.YtnbggokmiokhlaaDoorAxg
import Derived.Test.YtnbggokmiokhlaaDoorAxe
namespace Go.Proofs.YtnbggokmiokhlaaDoor
set_option linter.unusedVariables false
set_option linter.unusedSimpArgs false
open Go.RowKit

theorem pps_two {r : List UInt8} (h : ppsE r = 0) : 2 ≤ r.length ∧ ppsP r = ((r.getD 1 0).toNat : Int) % 16 := by
  constructor
  · unfold ppsE at h
    by_cases c : r.length < 2 ∨ r.getD 0 0 ≠ 255 ∨ 128 ≤ (r.getD 1 0).toNat
    · rw [if_pos c] at h; omega
    · have : ¬ r.length < 2 := fun x => c (.inl x)
      omega
  · unfold ppsP; rw [if_pos h]

set_option maxRecDepth 100000 in
set_option maxHeartbeats 3200000 in
theorem rans_any (a : At) (r : List UInt8) (v u : Value) (w : World) (h : AT w v a) (hu : SL w w.heap.size u r) (hg : ∀ x ∈ a.ibs, x.g ≤ 9223372036854775807) (hl : a.ibs.length ≤ 200) (hr : r.length ≤ 1000) :
    Calls Tryd.prog 34 #[v, u] w (AnsR a r w) := by
  have HC := Lib.hid (fun (W : World) (hW : Below w.heap.size w W) => rchka_any a v W (h.on hW) hg hl)
  have HP := Lib.hid (fun (W : World) (hW : Below w.heap.size w W) => rfar_any r u W (hu.on hW) hr)
  have HQ := Lib.hid (fun (p : Int) (W : World) => rreq_any p W)
  have HOF : Hid (chkE a = 0 → hasN a.prs (ppsP r) = true → ppsP r = 0 ∨ ppsP r = 1) := fun h1 h2 => off_has (valid_of (chkE_valid h1)).off h2
  obtain ⟨v1, v2, v3, rfl, h1, h2, h3⟩ := h
  have HH := Lib.hid (fun (x : Int) (W : World) (hW : Below w.heap.size w W) => rhas_any a.prs x v2 W W.heap.size (h2.on hW))
  obtain ⟨A1, c1, rfl, _, _, _⟩ := h1
  obtain ⟨A2, c2, rfl, _, _, _⟩ := h2
  obtain ⟨A3, c3, rfl, _, _, _⟩ := h3
  obtain ⟨Au, cu, rfl, k1, k2, k3⟩ := hu
  have K3 := Lib.hid k3
  unfold maxLen at k2
  have HE : Hid (ansE a r = if chkE a = 0 then (if ppsE r = 0 then (if hasN a.prs (ppsP r) = true then 0 else 28) else ppsE r) else 1) := rfl
  unfold FarR at HP
  unfold ReqR at HQ
  clear hg k3
  generalize chkE a = E at *
  have hal := Lib.hid (alloc_below w (.cells #[.bool a.inv, .slice A1 a.ibs.length c1, .slice A2 a.prs.length c2, .slice A3 a.his.length c3] 26))
  have hrow := Lib.hid (heap_alloc_new w (.cells #[.bool a.inv, .slice A1 a.ibs.length c1, .slice A2 a.prs.length c2, .slice A3 a.his.length c3] 26))
  by_cases x0 : E = 0
  case neg =>
    have HB := Lib.hid (fun (w' : World) (e : Ending) => ans_bad (a := a) (r := r) (w := w) (w' := w') (e := e) 1 (by rw [HE.out, if_neg x0]) (by decide))
    have hn : (E != 0) = true := by rw [bne_iff_ne]; exact x0
    go_enter Tryd.func34, Tryd.ntmps34
    go_wp2_with fail
    refine (HC.out _ hal.out).mono ?_
    rintro e w1 ⟨rfl, hb1⟩
    go_wp2_with fail
    go_ret3
    exact HB.out _ _ rfl (hal.out.trans (hb1.mono hal.out.size))
  subst x0
  have HE1 : Hid (ansE a r = if ppsE r = 0 then (if hasN a.prs (ppsP r) = true then 0 else 28) else ppsE r) := by show _ = _; rw [HE.out]; rfl
  have HOF1 := Lib.hid (HOF.out (by first | exact trivial | rfl))
  clear HE HOF
  have HAP : Hid (ansP a r = if ansE a r = 0 then ppsP r else 0) := rfl
  have HAV : Hid (ansV a r = if ansE a r = 0 then reqV (ppsP r) else []) := rfl
  have HTW : Hid (ppsE r = 0 → 2 ≤ r.length ∧ ppsP r = ((r.getD 1 0).toNat : Int) % 16) := pps_two
  generalize ppsP r = p at *
  generalize ppsE r = F at *
  by_cases x1 : F = 0
  case neg =>
    have HB := Lib.hid (fun (w' : World) (e : Ending) => ans_bad (a := a) (r := r) (w := w) (w' := w') (e := e) F (by rw [HE1.out, if_neg x1]) x1)
    have hn : (F != 0) = true := by rw [bne_iff_ne]; exact x1
    go_enter Tryd.func34, Tryd.ntmps34
    go_wp2_with fail
    refine (HC.out _ hal.out).mono ?_
    rintro e w1 ⟨rfl, hb1⟩
    have HB1 := Lib.hid (hal.out.trans (hb1.mono hal.out.size))
    clear hb1
    go_wp2_with fail
    refine (HP.out _ HB1.out).mono ?_
    rintro e w2 ⟨x0, x1, x2, rfl, hrr, hb2⟩
    have HB2 := Lib.hid (HB1.out.trans (hb2.mono HB1.out.size))
    clear hb2 hrr
    go_wp2_with fail
    go_ret3
    exact HB.out _ _ rfl (HB2.out.trans ((alloc_below _ _).mono HB2.out.size))
  subst x1
  have HE2 : Hid (ansE a r = if hasN a.prs p = true then 0 else 28) := by show _ = _; rw [HE1.out]; rfl
  obtain ⟨hl2, hpp⟩ := HTW.out (by first | exact trivial | rfl)
  obtain ⟨b, o, rfl, hb, hc⟩ := K3.out (by omega)
  have HG : Hid (∀ W, Below w.heap.size w W → W.cell? ⟨b, o + 1, none⟩ = some (.int .u8 ((r.getD 1 0).toNat : Int))) := fun W hW => (hW.cell (p := ⟨b, o + 1, none⟩) hb).trans (hc 1 (by omega))
  have i2 : (1 : Int) < (r.length : Int) := by omega
  clear hc K3 HTW
  generalize r.getD 1 0 = y at *
  have hy := y.toNat_lt
  have HH1 := Lib.hid (HH.out p)
  have HPP := Lib.hid hpp
  clear hpp
  generalize hasN a.prs p = Y at *
  go_enter Tryd.func34, Tryd.ntmps34
  go_wp2_with fail
  refine (HC.out _ hal.out).mono ?_
  rintro e w1 ⟨rfl, hb1⟩
  have HB1 := Lib.hid (hal.out.trans (hb1.mono hal.out.size))
  have HR1 := Lib.hid ((hb1.block _ (row_lt hrow.out)).trans hrow.out)
  clear hb1
  go_wp2_with fail
  refine (HP.out _ HB1.out).mono ?_
  rintro e w2 ⟨x0, x1, x2, rfl, hrr, hb2⟩
  have HB2 := Lib.hid (HB1.out.trans (hb2.mono HB1.out.size))
  have HR2 := Lib.hid ((hb2.block _ (row_lt HR1.out)).trans HR1.out)
  clear hb2 hrr
  have hal3 := alloc_below w2 (.cells #[.int .i64 x0, .int .i64 x1, .int .i64 x2] 74)
  have HR3 := Lib.hid ((hal3.block _ (row_lt HR2.out)).trans HR2.out)
  have HB3 := Lib.hid (HB2.out.trans (hal3.mono HB2.out.size))
  clear hal3
  obtain ⟨r0, r1, r2, r3⟩ := cellsA HR3.out
  have g1 := HG.out _ HB3.out
  go_wp2_with fail
  generalize w2.alloc (.cells #[.int .i64 x0, .int .i64 x1, .int .i64 x2] 74) = w3 at *
  try rw [← HPP.out]
  refine (HH1.out _ HB3.out).mono ?_
  rintro e w4 ⟨rfl, q, rfl⟩
  have HB4 := Lib.hid (below_drewN HB3.out q)
  clear r0 r1 r2 r3 g1
  generalize w3.drewN q = w4 at *
  cases Y with
  | false =>
    have HB := Lib.hid (fun (w' : World) (e : Ending) => ans_bad (a := a) (r := r) (w := w) (w' := w') (e := e) 28 (by rw [HE2.out]; rfl) (by decide))
    go_wp2_with fail
    go_ret3
    exact HB.out _ _ rfl HB4.out
  | true =>
    have hp := HOF1.out (by first | exact trivial | rfl)
    have HRQ := Lib.hid (req_ok hp)
    have HE3 : Hid (ansE a r = 0) := by show _ = _; rw [HE2.out]; rfl
    clear hp
    go_wp2_with fail
    refine (HQ.out _ _).mono ?_
    rintro e w5 ⟨v5, rfl, hv5, hb5⟩
    have HB5 := Lib.hid (HB4.out.trans (hb5.mono HB4.out.size))
    have HV5 := Lib.hid hv5
    obtain ⟨A5, c5, e5, _⟩ := id hv5
    subst e5
    clear hb5 hv5
    go_wp2_with fail
    go_ret3
    exact ⟨.slice A5 (reqV p).length c5, by rw [HAP.out, HE3.out, if_pos rfl]; rfl, by rw [HAV.out, HE3.out, if_pos rfl]; exact HV5.out, HB5.out⟩
end Go.Proofs.YtnbggokmiokhlaaDoor
