/-
  The walk of shut.
-/
import Derived.Test.YtdalcldilmmgmaaDoorCvf
namespace Go.Proofs.YtdalcldilmmgmaaDoor
set_option linter.unusedVariables false
set_option linter.unusedSimpArgs false
open Go.RowKit

set_option maxRecDepth 100000 in
set_option maxHeartbeats 1600000 in
theorem shut_any (g : Nat) (s : Ch) (x : Cm) (A : Option Addr) (k : Nat) (w : World) (h : CH w g s.shut) (hg : 0 < g) (hv : s.cv.length = 8) (ht : ET w) (hle : -9223372036854775808 ≤ x.le ∧ x.le ≤ 9223372036854775807) :
    Calls Tryd.prog 20 #[.pointer (some ⟨g, 0, none⟩), x.val (.slice A x.data.length k)] w fun e w' => e = .returned (.bool true) ∧ CH w' g s.shut ∧ Kb g w w' := by
  have hun := fun W (hW : CH W g s.shut) (hE : ET W) => pUnwrap_shut g s x A k W hW hv hE hle
  have hse := fun W sw B n j (hW : CH W g s.shut) (hE : ET W) => pSeal_shut g s ⟨[], sw⟩ B n j W hW hv hE
  have hlv := fun W (hW : CH W g s.shut) => plevel_any g s.shut W hW
  have hda := fun W (hW : CH W g s.shut) => pdata_any g s.shut W hW (Nat.zero_le _)
  have e8 : s.shut.cv.length = 8 := hv
  rw [e8] at hlv hda
  have HUN := Lib.hid hun
  have HSE := Lib.hid hse
  have HLV : Hid (∀ W, CH W g s.shut → Calls Tryd.prog 17 #[.pointer (some ⟨g, 0, none⟩)] W fun e w' => e = .returned (.int .i64 0) ∧ W = w') := hlv
  have HDA : Hid (∀ W, CH W g s.shut → Calls Tryd.prog 21 #[.pointer (some ⟨g, 0, none⟩)] W fun e w' => (∃ v', e = .returned v' ∧ SL w' w'.heap.size v' []) ∧ Below W.heap.size W w') := hda
  have hb := alloc_below w (Obj.cells #[.int .i64 x.cla, .int .i64 x.ins, .int .i64 x.p1, .int .i64 x.p2, .slice A x.data.length k, .int .i64 x.le, .bool x.long] 30)
  have hn := heap_alloc_new w (Obj.cells #[.int .i64 x.cla, .int .i64 x.ins, .int .i64 x.p1, .int .i64 x.p2, .slice A x.data.length k, .int .i64 x.le, .bool x.long] 30)
  have HB := Lib.hid hb
  have HN := Lib.hid hn
  have HC := Lib.hid (h.below hb)
  have HE := Lib.hid (ht.on hb)
  have HLT := Lib.hid h.lt
  clear hun hse hlv hda h hle ht e8
  unfold Cm.val Cm.zero at *
  simp only [Rs.val] at *
  go_enter Tryd.func20, Tryd.ntmps20
  go_wp2_with fail
  refine (HUN.out _ HC.out HE.out).mono ?_
  rintro e w3 ⟨rfl, hc3, hk3⟩
  have HC3 := Lib.hid hc3
  have HK3 := Lib.hid ((Kb.of_below HB.out).trans hk3)
  have HE3 := Lib.hid (HE.out.kb hk3 (by omega))
  clear hc3 hk3
  go_wp2_with fail
  have hb4 := alloc_below w3 (Obj.cells #[.int .i64 0, .int .i64 0, .int .i64 0, .int .i64 0, .slice none 0 0, .int .i64 0, .bool false] 30)
  have HS4 := Lib.hid (HSE.out _ 36864 none 0 0 (HC3.out.below hb4) (HE3.out.on hb4))
  have HC4 := Lib.hid (HC3.out.below hb4)
  have HK4 := Lib.hid (HK3.out.trans (Kb.of_below hb4))
  generalize w3.alloc (Obj.cells #[.int .i64 0, .int .i64 0, .int .i64 0, .int .i64 0, .slice none 0 0, .int .i64 0, .bool false] 30) = w4 at *
  clear hb4
  refine HS4.out.mono ?_
  rintro e w5 ⟨rfl, hb5⟩
  have HC5 := Lib.hid ((HC4.out.below hb5).below (alloc_below w5 (Obj.cells #[.slice none 0 0, .int .i64 0] 32)))
  have HK5 := Lib.hid ((HK4.out.trans (Kb.of_below hb5)).trans (Kb.of_below (alloc_below w5 (Obj.cells #[.slice none 0 0, .int .i64 0] 32))))
  clear hb5
  go_wp2_with (first
    | (go_at_call 17; refine (HLV.out _ HC5.out).mono ?_; rintro e w6 ⟨rfl, rfl⟩)
    | fail "none")
  refine (HDA.out _ HC5.out).mono ?_
  rintro e w6 ⟨⟨v6, rfl, hv6⟩, hb6⟩
  obtain ⟨A6, c6, rfl, _, _, _⟩ := id hv6
  have HC6 := Lib.hid (HC5.out.below hb6)
  have HK6 := Lib.hid (HK5.out.trans (Kb.of_below hb6))
  clear hb6 hv6
  go_wp2_with fail
  go_ret
  exact ⟨rfl, HC6.out, HK6.out⟩
end Go.Proofs.YtdalcldilmmgmaaDoor
