
/-
  The walk of parseControl.
-/
import Derived.Test.YtijiggfeamibkaaDoorBen
namespace Go.Proofs.YtijiggfeamibkaaDoor
set_option linter.unusedVariables false
set_option linter.unusedSimpArgs false
open Go.RowKit

theorem band_tab : ∀ c : Fin 256, bits .and .u8 (c.val : Int) 64 = ((c.val / 64 % 2 * 64 : Nat) : Int) ∧ bits .and .u8 (c.val : Int) 32 = ((c.val / 32 % 2 * 32 : Nat) : Int) ∧ bits .and .u8 (c.val : Int) 16 = ((c.val / 16 % 2 * 16 : Nat) : Int) := by decide +kernel
theorem bandn_tab : ∀ c : Fin 256, bits .andNot .u8 (c.val : Int) 144 = ((c.val % 16 + c.val / 32 % 4 * 32 : Nat) : Int) ∧ bits .andNot .u8 (c.val : Int) 224 = ((c.val % 32 : Nat) : Int) := by decide +kernel
theorem pbit2 (c : UInt8) (k r : Nat) (w : World) (h : bits .and .u8 (c.toNat : Int) (k : Int) = ((r * k : Nat) : Int)) (hk : 0 < k) (hr : r ≤ 1) : Calls Tryd.prog 30 #[.int .u8 (c.toNat : Int), .int .u8 (k : Int)] w fun e w' => e = .returned (.int .i64 (r : Int)) ∧ w = w' := by
  rcases (show r = 0 ∨ r = 1 by omega) with rfl | rfl
  · have h' : (bits .and .u8 (c.toNat : Int) (k : Int) != 0) = false := by rw [h]; simp
    clear h
    go_enter Tryd.func30, Tryd.ntmps30
    go_wp2
    go_ret
    exact ⟨rfl, rfl⟩
  · have h' : (bits .and .u8 (c.toNat : Int) (k : Int) != 0) = true := by rw [h, bne_iff_ne]; omega
    clear h
    go_enter Tryd.func30, Tryd.ntmps30
    go_wp2
    go_ret
    exact ⟨rfl, rfl⟩
def ParR (k : Kd) (b : Bool) (w : World) (e : Ending) (w' : World) : Prop := e = .returned (.tuple #[k.val, .bool b]) ∧ Below w.heap.size w w'

set_option maxRecDepth 100000 in
set_option maxHeartbeats 1600000 in
theorem ppar_inf (c : UInt8) (s : Nat) (m : Bool) (w : World) (hc : c.toNat < 128) (hs : s ≤ 1) (h1 : bits .and .u8 (c.toNat : Int) 64 = ((s * 64 : Nat) : Int)) (h2 : (bits .and .u8 (c.toNat : Int) 32 != 0) = m) (b : Bool) (hb : b = ((Kd.inf (s : Int) m).rng && ((Kd.inf (s : Int) m).ctl == c.toNat))) :
    Calls Tryd.prog 25 #[.int .u8 (c.toNat : Int)] w (ParR (Kd.inf (s : Int) m) b w) := by
  have hx := c.toNat_lt
  have HRI := fun (W : World) => prng_inf (s : Int) m W
  have HM := Lib.hid (fun (v : Value) (w : World) => mt_rng_122 v w)
  have HN := Lib.hid (fun (v : Value) (w : World) => mt_ctl_122 v w)
  have HP := Lib.hid (fun (W : World) => pbit2 c 64 s W h1 (by omega) hs)
  clear h1 hs
  cases hr : (Kd.inf (s : Int) m).rng
  · rw [hr] at hb HRI
    have HB : Hid (b = false) := by show _ = _; rw [hb]; rfl
    have HRI := Lib.hid HRI
    clear hb hr
    have hm := HM.out
    go_enter Tryd.func25, Tryd.ntmps25
    go_wp2_with fail
    refine (HP.out _).mono ?_
    rintro e w1 ⟨rfl, rfl⟩
    go_wp2_with fail
    refine (HRI.out _).mono ?_
    rintro e w2 ⟨rfl, hb2⟩
    clear hm
    go_wp2_with fail
    go_ret2
    exact ⟨by rw [HB.out]; rfl, hb2⟩
  · rw [hr] at HRI
    have HCT := Lib.hid (fun (W : World) => pctl_inf (s : Int) m W hr)
    rw [hr, Bool.true_and] at hb
    have hcl := ctl_lt hr
    have HRI := Lib.hid HRI
    clear hr
    generalize (Kd.inf (s : Int) m).ctl = ct at *
    cases hq : (ct == c.toNat)
    · rw [hq] at hb
      subst hb
      have q1 : ((ct : Int) == (c.toNat : Int)) = false := by rw [beq_eq_false_iff_ne]; rw [beq_eq_false_iff_ne] at hq; omega
      have q2 : decide (ct = c.toNat) = false := by rw [decide_eq_false_iff_not]; rw [beq_eq_false_iff_ne] at hq; exact hq
      have hm := HM.out
      have hn := HN.out
      go_enter Tryd.func25, Tryd.ntmps25
      go_wp2_with fail
      refine (HP.out _).mono ?_
      rintro e w1 ⟨rfl, rfl⟩
      go_wp2_with fail
      refine (HRI.out _).mono ?_
      rintro e w2 ⟨rfl, hb2⟩
      go_wp2_with fail
      refine (HCT.out _).mono ?_
      rintro e w3 ⟨rfl, hb3⟩
      clear hm hn
      go_wp2_with fail
      go_ret2
      exact ⟨rfl, hb2.trans (hb3.mono hb2.size)⟩
    · rw [hq] at hb
      subst hb
      have q1 : ((ct : Int) == (c.toNat : Int)) = true := by rw [beq_iff_eq]; rw [beq_iff_eq] at hq; omega
      have q2 : decide (ct = c.toNat) = true := by rw [decide_eq_true_iff]; rw [beq_iff_eq] at hq; exact hq
      have hm := HM.out
      have hn := HN.out
      go_enter Tryd.func25, Tryd.ntmps25
      go_wp2_with fail
      refine (HP.out _).mono ?_
      rintro e w1 ⟨rfl, rfl⟩
      go_wp2_with fail
      refine (HRI.out _).mono ?_
      rintro e w2 ⟨rfl, hb2⟩
      go_wp2_with fail
      refine (HCT.out _).mono ?_
      rintro e w3 ⟨rfl, hb3⟩
      clear hm hn
      go_wp2_with fail
      go_ret2
      exact ⟨rfl, hb2.trans (hb3.mono hb2.size)⟩

set_option maxRecDepth 100000 in
set_option maxHeartbeats 1600000 in
theorem ppar_rdy (c : UInt8) (s t : Nat) (w : World) (hc : 128 ≤ c.toNat ∧ c.toNat < 192) (hs : s ≤ 1) (h1 : bits .and .u8 (c.toNat : Int) 16 = ((s * 16 : Nat) : Int)) (h2 : bits .andNot .u8 (c.toNat : Int) 144 = (t : Int)) (ht : t < 256) (b : Bool) (hb : b = ((Kd.rdy (s : Int) (t : Int)).rng && ((Kd.rdy (s : Int) (t : Int)).ctl == c.toNat))) :
    Calls Tryd.prog 25 #[.int .u8 (c.toNat : Int)] w (ParR (Kd.rdy (s : Int) (t : Int)) b w) := by
  have hx := c.toNat_lt
  have HRI := fun (W : World) => prng_rdy (s : Int) (t : Int) W
  have HM := Lib.hid (fun (v : Value) (w : World) => mt_rng_124 v w)
  have HN := Lib.hid (fun (v : Value) (w : World) => mt_ctl_124 v w)
  have HP := Lib.hid (fun (W : World) => pbit2 c 16 s W h1 (by omega) hs)
  clear h1 hs
  have g1 : 128 ≤ c.toNat := hc.1
  have g2 : c.toNat < 192 := hc.2
  clear hc
  cases hr : (Kd.rdy (s : Int) (t : Int)).rng
  · rw [hr] at hb HRI
    have HB : Hid (b = false) := by show _ = _; rw [hb]; rfl
    have HRI := Lib.hid HRI
    clear hb hr
    have hm := HM.out
    go_enter Tryd.func25, Tryd.ntmps25
    go_wp2_with fail
    refine (HP.out _).mono ?_
    rintro e w1 ⟨rfl, rfl⟩
    go_wp2_with fail
    refine (HRI.out _).mono ?_
    rintro e w2 ⟨rfl, hb2⟩
    clear hm
    go_wp2_with fail
    go_ret2
    exact ⟨by rw [HB.out]; rfl, hb2⟩
  · rw [hr] at HRI
    have HCT := Lib.hid (fun (W : World) => pctl_rdy (s : Int) (t : Int) W hr)
    rw [hr, Bool.true_and] at hb
    have hcl := ctl_lt hr
    have HRI := Lib.hid HRI
    clear hr
    generalize (Kd.rdy (s : Int) (t : Int)).ctl = ct at *
    cases hq : (ct == c.toNat)
    · rw [hq] at hb
      subst hb
      have q1 : ((ct : Int) == (c.toNat : Int)) = false := by rw [beq_eq_false_iff_ne]; rw [beq_eq_false_iff_ne] at hq; omega
      have q2 : decide (ct = c.toNat) = false := by rw [decide_eq_false_iff_not]; rw [beq_eq_false_iff_ne] at hq; exact hq
      have hm := HM.out
      have hn := HN.out
      go_enter Tryd.func25, Tryd.ntmps25
      go_wp2_with fail
      refine (HP.out _).mono ?_
      rintro e w1 ⟨rfl, rfl⟩
      go_wp2_with fail
      refine (HRI.out _).mono ?_
      rintro e w2 ⟨rfl, hb2⟩
      go_wp2_with fail
      refine (HCT.out _).mono ?_
      rintro e w3 ⟨rfl, hb3⟩
      clear hm hn
      go_wp2_with fail
      go_ret2
      exact ⟨rfl, hb2.trans (hb3.mono hb2.size)⟩
    · rw [hq] at hb
      subst hb
      have q1 : ((ct : Int) == (c.toNat : Int)) = true := by rw [beq_iff_eq]; rw [beq_iff_eq] at hq; omega
      have q2 : decide (ct = c.toNat) = true := by rw [decide_eq_true_iff]; rw [beq_iff_eq] at hq; exact hq
      have hm := HM.out
      have hn := HN.out
      go_enter Tryd.func25, Tryd.ntmps25
      go_wp2_with fail
      refine (HP.out _).mono ?_
      rintro e w1 ⟨rfl, rfl⟩
      go_wp2_with fail
      refine (HRI.out _).mono ?_
      rintro e w2 ⟨rfl, hb2⟩
      go_wp2_with fail
      refine (HCT.out _).mono ?_
      rintro e w3 ⟨rfl, hb3⟩
      clear hm hn
      go_wp2_with fail
      go_ret2
      exact ⟨rfl, hb2.trans (hb3.mono hb2.size)⟩

set_option maxRecDepth 100000 in
set_option maxHeartbeats 1600000 in
theorem ppar_sup (c : UInt8) (t : Nat) (m : Bool) (w : World) (hc : 192 ≤ c.toNat) (h1 : bits .andNot .u8 (c.toNat : Int) 224 = (t : Int)) (ht : t < 256) (h2 : (bits .and .u8 (c.toNat : Int) 32 != 0) = m) (b : Bool) (hb : b = ((Kd.sup (t : Int) m).rng && ((Kd.sup (t : Int) m).ctl == c.toNat))) :
    Calls Tryd.prog 25 #[.int .u8 (c.toNat : Int)] w (ParR (Kd.sup (t : Int) m) b w) := by
  have hx := c.toNat_lt
  have HRI := fun (W : World) => prng_sup (t : Int) m W
  have HM := Lib.hid (fun (v : Value) (w : World) => mt_rng_126 v w)
  have HN := Lib.hid (fun (v : Value) (w : World) => mt_ctl_126 v w)
  have g1 : 128 ≤ c.toNat := by omega
  cases hr : (Kd.sup (t : Int) m).rng
  · rw [hr] at hb HRI
    have HB : Hid (b = false) := by show _ = _; rw [hb]; rfl
    have HRI := Lib.hid HRI
    clear hb hr
    have hm := HM.out
    go_enter Tryd.func25, Tryd.ntmps25
    go_wp2_with fail
    refine (HRI.out _).mono ?_
    rintro e w2 ⟨rfl, hb2⟩
    clear hm
    go_wp2_with fail
    go_ret2
    exact ⟨by rw [HB.out]; rfl, hb2⟩
  · rw [hr] at HRI
    have HCT := Lib.hid (fun (W : World) => pctl_sup (t : Int) m W hr)
    rw [hr, Bool.true_and] at hb
    have hcl := ctl_lt hr
    have HRI := Lib.hid HRI
    clear hr
    generalize (Kd.sup (t : Int) m).ctl = ct at *
    cases hq : (ct == c.toNat)
    · rw [hq] at hb
      subst hb
      have q1 : ((ct : Int) == (c.toNat : Int)) = false := by rw [beq_eq_false_iff_ne]; rw [beq_eq_false_iff_ne] at hq; omega
      have q2 : decide (ct = c.toNat) = false := by rw [decide_eq_false_iff_not]; rw [beq_eq_false_iff_ne] at hq; exact hq
      have hm := HM.out
      have hn := HN.out
      go_enter Tryd.func25, Tryd.ntmps25
      go_wp2_with fail
      refine (HRI.out _).mono ?_
      rintro e w2 ⟨rfl, hb2⟩
      go_wp2_with fail
      refine (HCT.out _).mono ?_
      rintro e w3 ⟨rfl, hb3⟩
      clear hm hn
      go_wp2_with fail
      go_ret2
      exact ⟨rfl, hb2.trans (hb3.mono hb2.size)⟩
    · rw [hq] at hb
      subst hb
      have q1 : ((ct : Int) == (c.toNat : Int)) = true := by rw [beq_iff_eq]; rw [beq_iff_eq] at hq; omega
      have q2 : decide (ct = c.toNat) = true := by rw [decide_eq_true_iff]; rw [beq_iff_eq] at hq; exact hq
      have hm := HM.out
      have hn := HN.out
      go_enter Tryd.func25, Tryd.ntmps25
      go_wp2_with fail
      refine (HRI.out _).mono ?_
      rintro e w2 ⟨rfl, hb2⟩
      go_wp2_with fail
      refine (HCT.out _).mono ?_
      rintro e w3 ⟨rfl, hb3⟩
      clear hm hn
      go_wp2_with fail
      go_ret2
      exact ⟨rfl, hb2.trans (hb3.mono hb2.size)⟩

/-- parseControl. -/
theorem ppar_any (c : UInt8) (w : World) : Calls Tryd.prog 25 #[.int .u8 (c.toNat : Int)] w (ParR (kdC c.toNat) (okC c.toNat) w) := by
  have hx : c.toNat < 256 := c.toNat_lt
  have t1 := band_tab ⟨c.toNat, hx⟩
  have t2 := bandn_tab ⟨c.toNat, hx⟩
  simp only at t1 t2
  obtain ⟨t64, t32, t16⟩ := t1
  obtain ⟨n144, n224⟩ := t2
  have hok := okC_iff c.toNat hx
  rw [hok]
  by_cases h1 : c.toNat < 128
  · have e : kdC c.toNat = .inf ((c.toNat / 64 : Nat) : Int) (c.toNat / 32 % 2 == 1) := by rw [kdC, if_pos h1]
    rw [e]
    refine ppar_inf c (c.toNat / 64) (c.toNat / 32 % 2 == 1) w h1 (by omega) (by rw [t64]; congr 1; omega) ?_ _ rfl
    rw [t32]
    rcases (show c.toNat / 32 % 2 = 0 ∨ c.toNat / 32 % 2 = 1 by omega) with h | h <;> rw [h] <;> rfl
  · by_cases h2 : c.toNat < 192
    · have e : kdC c.toNat = .rdy ((c.toNat / 16 % 2 : Nat) : Int) ((c.toNat % 16 + (c.toNat / 32 % 2) * 32 : Nat) : Int) := by rw [kdC, if_neg h1, if_pos h2]
      rw [e]
      exact ppar_rdy c (c.toNat / 16 % 2) (c.toNat % 16 + (c.toNat / 32 % 2) * 32) w ⟨by omega, h2⟩ (by omega) t16 (by rw [n144]; congr 1; omega) (by omega) _ rfl
    · have e : kdC c.toNat = .sup ((c.toNat % 32 : Nat) : Int) (decide (224 ≤ c.toNat)) := by rw [kdC, if_neg h1, if_neg h2]
      rw [e]
      refine ppar_sup c (c.toNat % 32) (decide (224 ≤ c.toNat)) w (by omega) n224 (by omega) ?_ _ rfl
      rw [t32]
      by_cases h3 : 224 ≤ c.toNat
      · rw [show c.toNat / 32 % 2 = 1 by omega, decide_eq_true h3]; rfl
      · rw [show c.toNat / 32 % 2 = 0 by omega, decide_eq_false h3]; rfl
end Go.Proofs.YtijiggfeamibkaaDoor
