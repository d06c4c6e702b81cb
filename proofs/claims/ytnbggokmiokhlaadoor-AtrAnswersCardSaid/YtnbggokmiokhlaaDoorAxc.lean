/-
  Answer: the walk of the program.
-/
import Derived.Test.YtnbggokmiokhlaaDoorAxb
import Derived.Test.YtnbggokmiokhlaaDoorAwg
namespace Go.Proofs.YtnbggokmiokhlaaDoor
set_option linter.unusedVariables false
set_option linter.unusedSimpArgs false
open Go.RowKit

def ansE (a : At) (r : List UInt8) : Int := if chkE a = 0 then (if ppsE r = 0 then (if hasN a.prs (ppsP r) = true then 0 else 28) else ppsE r) else 1
def ansP (a : At) (r : List UInt8) : Int := if ansE a r = 0 then ppsP r else 0
def ansV (a : At) (r : List UInt8) : List UInt8 := if ansE a r = 0 then reqV (ppsP r) else []
def AnsR (a : At) (r : List UInt8) (w : World) (e : Ending) (w' : World) : Prop :=
  ∃ v', e = .returned (.tuple #[v', .int .i64 (ansP a r), .int .i64 (ansE a r)]) ∧ SL w' w'.heap.size v' (ansV a r) ∧ Below w.heap.size w w'
theorem ans_bad {a : At} {r : List UInt8} {w w' : World} {e : Ending} (E : Int) (hE : ansE a r = E) (h0 : E ≠ 0) (he : e = .returned (.tuple #[.slice none 0 0, .int .i64 0, .int .i64 E])) (hB : Below w.heap.size w w') : AnsR a r w e w' := by
  subst he
  have e1 : ansP a r = 0 := by unfold ansP; rw [if_neg (by omega)]
  have e2 : ansV a r = [] := by unfold ansV; rw [if_neg (by omega)]
  exact ⟨_, by rw [e1, hE], by rw [e2]; exact SL.nil _ _ _ _ (Nat.zero_le _), hB⟩
theorem req_ok {p : Int} (h : p = 0 ∨ p = 1) : reqE p = 0 := by rcases h with rfl | rfl <;> rfl

set_option maxRecDepth 100000 in
set_option maxHeartbeats 3200000 in
theorem pans_any (a : At) (r : List UInt8) (v u : Value) (w : World) (h : AT w v a) (hu : SL w w.heap.size u r) (hg : ∀ x ∈ a.ibs, x.g ≤ 9223372036854775807) (hl : a.ibs.length ≤ 200) (hr : r.length ≤ 1000) (hT : Tb w) :
    Calls Tryd.prog 33 #[v, u] w (AnsR a r w) := by
  have HC := Lib.hid (fun (W : World) (hW : Below w.heap.size w W) => pchka_any a v W (h.on hW) hg hl (hT.on hW))
  have HP := Lib.hid (fun (W : World) (hW : Below w.heap.size w W) => ppar_any r u W (hu.on hW) (hT.on hW) hr)
  have HQ := Lib.hid (fun (p : Int) (W : World) (hW : Below w.heap.size w W) => preq_any p W (hT.on hW))
  have HOF : Hid (chkE a = 0 → hasN a.prs (ppsP r) = true → ppsP r = 0 ∨ ppsP r = 1) := fun h1 h2 => off_has (valid_of (chkE_valid h1)).off h2
  obtain ⟨v1, v2, v3, rfl, h1, h2, h3⟩ := h
  have HH := Lib.hid (fun (x : Int) (W : World) (hW : Below w.heap.size w W) => phas_any a.prs x v2 W W.heap.size (h2.on hW))
  obtain ⟨A1, c1, rfl, _, _, _⟩ := h1
  obtain ⟨A2, c2, rfl, _, _, _⟩ := h2
  obtain ⟨A3, c3, rfl, _, _, _⟩ := h3
  obtain ⟨Au, cu, rfl, _, _, _⟩ := hu
  have HE : Hid (ansE a r = if chkE a = 0 then (if ppsE r = 0 then (if hasN a.prs (ppsP r) = true then 0 else 28) else ppsE r) else 1) := rfl
  unfold PpsR at HP
  unfold ReqR at HQ
  clear hg hT
  generalize chkE a = E at *
  have hal := Lib.hid (alloc_below w (.cells #[.bool a.inv, .slice A1 a.ibs.length c1, .slice A2 a.prs.length c2, .slice A3 a.his.length c3] 26))
  have hrow := Lib.hid (heap_alloc_new w (.cells #[.bool a.inv, .slice A1 a.ibs.length c1, .slice A2 a.prs.length c2, .slice A3 a.his.length c3] 26))
  by_cases x0 : E = 0
  case neg =>
    have HB := Lib.hid (fun (w' : World) (e : Ending) => ans_bad (a := a) (r := r) (w := w) (w' := w') (e := e) 1 (by rw [HE.out, if_neg x0]) (by decide))
    have hn : (E != 0) = true := by rw [bne_iff_ne]; exact x0
    go_enter Tryd.func33, Tryd.ntmps33
    go_wp2_with fail
    refine (HC.out _ hal.out).mono ?_
    rintro e w1 ⟨rfl, hb1⟩
    go_wp2_with fail
    go_ret3
    exact HB.out _ _ rfl (hal.out.trans (hb1.mono hal.out.size))
  subst x0
  have HE1 : Hid (ansE a r = if ppsE r = 0 then (if hasN a.prs (ppsP r) = true then 0 else 28) else ppsE r) := by show _ = _; rw [HE.out]; rfl
  have HOF1 := Lib.hid (HOF.out (by first | exact trivial | rfl))
  clear HE HOF
  have HAP : Hid (ansP a r = if ansE a r = 0 then ppsP r else 0) := rfl
  have HAV : Hid (ansV a r = if ansE a r = 0 then reqV (ppsP r) else []) := rfl
  generalize ppsP r = p at *
  generalize ppsE r = F at *
  by_cases x1 : F = 0
  case neg =>
    have HB := Lib.hid (fun (w' : World) (e : Ending) => ans_bad (a := a) (r := r) (w := w) (w' := w') (e := e) F (by rw [HE1.out, if_neg x1]) x1)
    have hn : (F != 0) = true := by rw [bne_iff_ne]; exact x1
    go_enter Tryd.func33, Tryd.ntmps33
    go_wp2_with fail
    refine (HC.out _ hal.out).mono ?_
    rintro e w1 ⟨rfl, hb1⟩
    have HB1 := Lib.hid (hal.out.trans (hb1.mono hal.out.size))
    clear hb1
    go_wp2_with fail
    refine (HP.out _ HB1.out).mono ?_
    rintro e w2 ⟨f0, f1, f2, rfl, s0, s1, s2, hb2⟩
    have HB2 := Lib.hid (HB1.out.trans (hb2.mono HB1.out.size))
    obtain ⟨F0, d0, e0, _⟩ := s0.1
    subst e0
    obtain ⟨F1, d1, e1, _⟩ := s1.1
    subst e1
    obtain ⟨F2, d2, e2, _⟩ := s2.1
    subst e2
    clear hb2 s0 s1 s2
    go_wp2_with fail
    go_ret3
    exact HB.out _ _ rfl (HB2.out.trans ((alloc_below _ _).mono HB2.out.size))
  subst x1
  have HE2 : Hid (ansE a r = if hasN a.prs p = true then 0 else 28) := by show _ = _; rw [HE1.out]; rfl
  have HH1 := Lib.hid (HH.out p)
  generalize hasN a.prs p = Y at *
  go_enter Tryd.func33, Tryd.ntmps33
  go_wp2_with fail
  refine (HC.out _ hal.out).mono ?_
  rintro e w1 ⟨rfl, hb1⟩
  have HB1 := Lib.hid (hal.out.trans (hb1.mono hal.out.size))
  have HR1 := Lib.hid ((hb1.block _ (row_lt hrow.out)).trans hrow.out)
  clear hb1
  go_wp2_with fail
  refine (HP.out _ HB1.out).mono ?_
  rintro e w2 ⟨f0, f1, f2, rfl, s0, s1, s2, hb2⟩
  have HB2 := Lib.hid (HB1.out.trans (hb2.mono HB1.out.size))
  have HR2 := Lib.hid ((hb2.block _ (row_lt HR1.out)).trans HR1.out)
  obtain ⟨F0, d0, e0, _⟩ := s0.1
  subst e0
  obtain ⟨F1, d1, e1, _⟩ := s1.1
  subst e1
  obtain ⟨F2, d2, e2, _⟩ := s2.1
  subst e2
  clear hb2 s0 s1 s2
  have hal3 := alloc_below w2 (.cells #[.int .i64 p, .slice F0 (ppsF r 0).length d0, .slice F1 (ppsF r 1).length d1, .slice F2 (ppsF r 2).length d2] 71)
  have HX3 := Lib.hid (heap_alloc_new w2 (.cells #[.int .i64 p, .slice F0 (ppsF r 0).length d0, .slice F1 (ppsF r 1).length d1, .slice F2 (ppsF r 2).length d2] 71))
  have HR3 := Lib.hid ((hal3.block _ (row_lt HR2.out)).trans HR2.out)
  have HB3 := Lib.hid (HB2.out.trans (hal3.mono HB2.out.size))
  obtain ⟨r0, r1, r2, r3⟩ := cellsA HR3.out
  clear hal3
  go_wp2_with fail
  generalize w2.alloc (.cells #[.int .i64 p, .slice F0 (ppsF r 0).length d0, .slice F1 (ppsF r 1).length d1, .slice F2 (ppsF r 2).length d2] 71) = w3 at *
  refine (HH1.out _ HB3.out).mono ?_
  rintro e w4 ⟨rfl, q, rfl⟩
  have HB4 := Lib.hid (below_drewN HB3.out q)
  have HX4 : Hid ((w3.drewN q).heap[w2.heap.size]? = some (.cells #[.int .i64 p, .slice F0 (ppsF r 0).length d0, .slice F1 (ppsF r 1).length d1, .slice F2 (ppsF r 2).length d2] 71 (0, 0))) := HX3.out
  clear r0 r1 r2 r3
  generalize w3.drewN q = w4 at *
  cases Y with
  | false =>
    have HB := Lib.hid (fun (w' : World) (e : Ending) => ans_bad (a := a) (r := r) (w := w) (w' := w') (e := e) 28 (by rw [HE2.out]; rfl) (by decide))
    go_wp2_with fail
    go_ret3
    exact HB.out _ _ rfl HB4.out
  | true =>
    have hp := HOF1.out (by first | exact trivial | rfl)
    have HRQ := Lib.hid (req_ok hp)
    have HE3 : Hid (ansE a r = 0) := by show _ = _; rw [HE2.out]; rfl
    clear hp
    obtain ⟨p0, p1, p2, p3⟩ := cellsA HX4.out
    go_wp2_with fail
    refine (HQ.out _ _ HB4.out).mono ?_
    rintro e w5 ⟨v5, rfl, hv5, hb5⟩
    rw [HRQ.out]
    have HB5 := Lib.hid (HB4.out.trans (hb5.mono HB4.out.size))
    clear p0 p1 p2 p3
    obtain ⟨p0, p1, p2, p3⟩ := cellsA ((hb5.block _ (row_lt HX4.out)).trans HX4.out)
    have HV5 := Lib.hid hv5
    obtain ⟨A5, c5, e5, _⟩ := id hv5
    subst e5
    clear hb5 hv5
    go_wp2_with fail
    go_quiet (fail)
    go_wp2_with fail
    go_ret3
    exact ⟨.slice A5 (reqV p).length c5, by rw [HAP.out, HE3.out, if_pos rfl]; rfl, by rw [HAV.out, HE3.out, if_pos rfl]; exact HV5.out.on (drewN_below _ _ _), below_drewN HB5.out _⟩
end Go.Proofs.YtnbggokmiokhlaaDoor
