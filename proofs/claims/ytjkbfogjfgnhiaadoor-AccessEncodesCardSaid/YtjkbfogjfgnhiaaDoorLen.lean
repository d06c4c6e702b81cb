/-
  The walk of the law AccessEncodes.
-/
import Derived.Test.YtjkbfogjfgnhiaaDoorRen
namespace Go.Proofs.YtjkbfogjfgnhiaaDoor
set_option linter.unusedVariables false
set_option linter.unusedSimpArgs false
open Go.RowKit

set_option maxRecDepth 100000 in
set_option maxHeartbeats 6400000 in
theorem law_encodes (rs : List Rl) (v : Value) (w : World) (hk : RL w w.heap.size v rs) (hT : Tb w) :
    Calls Tryd.prog 10 #[v] w fun e w' => e = .returned (.bool true) ∧ Below w.heap.size w w' := by
  have HF := Lib.hid (fewr_any rs v w hk)
  have HFC := Lib.hid (@fewR_cnt rs)
  have hp1 := fun (W : World) (hW : Below w.heap.size w W) hc => penr_any rs v W (hk.on hW) (hT.on hW) hc
  have hp2 := fun (W : World) (hW : Below w.heap.size w W) hc => rencr_any rs v W (hk.on hW) hc
  unfold EnrP at hp1 hp2
  have HA := Lib.hid fun (W : World) (hW : Below w.heap.size w W) => works_any W (hT.on hW)
  obtain ⟨A, cap, rfl, _, _, _⟩ := id hk
  obtain ⟨E, hE⟩ : ∃ E, E = rE rs := ⟨_, rfl⟩
  obtain ⟨M, hM⟩ : ∃ M, M = rM rs := ⟨_, rfl⟩
  simp only [← hE, ← hM] at hp1 hp2
  have HP1 := Lib.hid hp1
  have HP2 := Lib.hid hp2
  have HUP : Hid (∀ W w', Below w.heap.size w W → Below W.heap.size W w' → Below w.heap.size w w') := fun W w' h h' => h.trans (h'.mono h.size)
  clear hk hT hp1 hp2 hE hM
  generalize fewR rs = F at *
  go_enter Tryd.func10, Tryd.ntmps10
  go_wp2_with fail
  refine HF.out.mono ?_
  rintro e w1 ⟨rfl, hb1⟩
  cases F with
  | false =>
    go_wp2_with fail
    refine (HA.out _ hb1).mono ?_
    rintro e w2 ⟨rfl, hb2⟩
    go_wp2_with fail
    go_ret
    exact ⟨rfl, HUP.out _ _ hb1 hb2⟩
  | true =>
    have hc := HFC.out (by first | exact trivial | rfl)
    have HC := Lib.hid hc
    clear hc
    go_wp2_with fail
    refine (HP1.out _ hb1 HC.out).mono ?_
    rintro e w2 ⟨v2, rfl, hv2, hb2'⟩
    have hb2 := HUP.out _ _ hb1 hb2'
    clear hb2'
    obtain ⟨A2, c2, e2, _⟩ := id hv2
    subst e2
    have HV2 := Lib.hid hv2
    clear hv2
    go_wp2_with fail
    refine (HP2.out _ hb2 HC.out).mono ?_
    rintro e w3 ⟨v3, rfl, hv3, hb3'⟩
    have cv1 := (HV2.out.on hb3').convert
    have cv2 := hv3.convert
    have hb3 := HUP.out _ _ hb2 hb3'
    clear hb3'
    obtain ⟨A3, c3, e3, _⟩ := id hv3
    subst e3
    clear hv3
    go_wp2_with fail
    refine (HA.out _ hb3).mono ?_
    rintro e w4 ⟨rfl, hb4⟩
    go_wp2_with fail
    go_ret
    exact ⟨rfl, HUP.out _ _ hb3 hb4⟩
end Go.Proofs.YtjkbfogjfgnhiaaDoor
