/-
  Encode of headers, of the program, for any header.
-/
import Derived.Test.YtkjcafhaenkpbaaDoorEnf
import Derived.Test.YtkjcafhaenkpbaaDoorChf
namespace Go.Proofs.YtkjcafhaenkpbaaDoor
set_option linter.unusedVariables false
set_option linter.unusedSimpArgs false
open Go.RowKit

/-- A valid header, spelled with natural numbers. -/
theorem chkF_nat (f : Fl) (h : chkF f = 0) : ∃ (I K S L R ST Z : Nat), f.id = I ∧ f.kind = K ∧ f.short = S ∧ f.size = Z ∧ f.len = L ∧ f.recs = R ∧ f.state = ST ∧ (1 ≤ I ∧ I < 65535) ∧ (1 ≤ K ∧ K ≤ 5) ∧ S ≤ 30 ∧ Z ≤ 1024 ∧ L ≤ 254 ∧ R ≤ 254 ∧ (1 ≤ ST ∧ ST ≤ 3) := by
  obtain ⟨h1, h2, h3, h4, h5, h6, h7⟩ := chkF_facts f h
  obtain ⟨s1, s2, s3, s4, s5⟩ := sizE_facts f h5
  have z : 0 ≤ f.size ∧ f.size ≤ 1024 := by
    by_cases hk : f.kind = 2
    · have := s1 hk; omega
    · have := s2 hk; omega
  have lr : (0 ≤ f.len ∧ f.len ≤ 254) ∧ 0 ≤ f.recs ∧ f.recs ≤ 254 := by
    cases hr : recK f.kind
    · have := s4 hr; omega
    · have := s3 hr; omega
  exact ⟨f.id.toNat, f.kind.toNat, f.short.toNat, f.len.toNat, f.recs.toNat, f.state.toNat, f.size.toNat, by omega, by omega, by omega, by omega, by omega, by omega, by omega, by omega, by omega, by omega, by omega, by omega, by omega, by omega⟩
theorem pts_nat (I K S L R ST Z : Nat) (name : List UInt8) (rules : List Rl) : pts ⟨(I : Int), (K : Int), (S : Int), (Z : Int), (L : Int), (R : Int), (ST : Int), name, rules⟩ =
    [(130, kindB K L R), (131, putL I 2), (132, name), (128, if (K : Int) = 2 then putL Z 2 else []), (136, if (S : Int) = 0 then [] else [UInt8.ofNat S]), (138, [UInt8.ofNat ST]), (134, rM rules)] := by
  unfold pts
  simp only [Int.toNat_natCast]

set_option maxRecDepth 100000 in
set_option maxHeartbeats 6400000 in
theorem pencf_any (f : Fl) (A1 : Option Addr) (c1 : Nat) (A2 : Option Addr) (c2 : Nat) (w : World) (hn1 : SL w w.heap.size (.slice A1 f.name.length c1) f.name) (hk1 : RL w w.heap.size (.slice A2 f.rules.length c2) f.rules) (hT : Tb w)
    (hc : ∀ (k : Nat) (h : k < f.rules.length), f.rules[k].cond.cnt ≤ 2900000 ∧ f.rules[k].cond.dep ≤ 900) :
    Calls Tryd.prog 14 #[.agg #[.int .i64 f.id, .int .i64 f.kind, .slice A1 f.name.length c1, .int .i64 f.short, .int .i64 f.size, .int .i64 f.len, .int .i64 f.recs, .int .i64 f.state, .slice A2 f.rules.length c2]] w fun e w' => ∃ v', e = .returned (.tuple #[v', .int .i64 (encfE f)]) ∧ FS w' w.heap.size v' (encfM f) ∧ Below w.heap.size w w' := by
  have hl1 : (f.name.length : Int) ≤ 9223372036854775807 := by obtain ⟨A, c, _, h1, h2, _⟩ := id hn1; unfold maxLen at h2; omega
  have HP : ∀ W, Below w.heap.size w W → Calls Tryd.prog 11 #[.agg #[.int .i64 f.id, .int .i64 f.kind, .slice A1 f.name.length c1, .int .i64 f.short, .int .i64 f.size, .int .i64 f.len, .int .i64 f.recs, .int .i64 f.state, .slice A2 f.rules.length c2]] W fun e w' => e = .returned (.int .i64 (chkF f)) ∧ Below W.heap.size W w' := fun W hW => pchf_any f A1 c1 A2 c2 W hl1 (hk1.on hW) (hT.on hW) hc
  by_cases h0 : chkF f = 0
  · have hE : encfE f = encE [T.mk 98 [] ((outP (pts f) 7).map gObj)] := if_pos h0
    have hM : encfM f = encM [T.mk 98 [] ((outP (pts f) 7).map gObj)] := if_pos h0
    rw [hE, hM]
    have hlen := fT_len f h0
    obtain ⟨-, -, hn, -, -, -, hr⟩ := chkF_facts f h0
    have hcr := (chkR_cnt _ hr).2
    rw [h0] at HP
    obtain ⟨I, K, S, L, R, ST, Z, e1, e2, e3, e4, e5, e6, e7, b1, b2, b3, b4, b5, b6, b7⟩ := chkF_nat f h0
    clear h0 hE hM hr hc hl1
    obtain ⟨id, kind, short, size, len, recs, state, name, rules⟩ := f
    simp only at e1 e2 e3 e4 e5 e6 e7 hn1 hk1 hn HP hcr hlen ⊢
    subst e1 e2 e3 e4 e5 e6 e7
    refine enc_loop I K S L R ST (Z : Int) name rules A1 c1 A2 c2 w hn1 hk1 hT hcr (by omega) (by omega) (by omega) (by omega) (by omega) (by omega) hn
      (if (K : Int) = 2 then putL Z 2 else []) (fun W => ?_) (if (S : Int) = 0 then [] else [UInt8.ofNat S]) (fun W => ?_) ⟨by split <;> simp [putL_length], by split <;> simp⟩ _ (pts_nat I K S L R ST Z name rules) hlen HP
    · by_cases hK : (K : Int) = 2
      · rw [if_pos hK, hK]
        exact m_size2 Z _ _ _ _ _ A1 c1 _ A2 c2 _ W (by omega)
      · rw [if_neg hK]
        exact m_size0 _ hK _ _ _ _ _ _ A1 c1 _ A2 c2 _ W
    · by_cases hS : (S : Int) = 0
      · rw [if_pos hS, hS]
        exact m_short0 _ _ _ _ _ _ A1 c1 _ A2 c2 _ W
      · rw [if_neg hS]
        exact m_short1 S _ _ _ _ _ _ A1 c1 _ A2 c2 _ W (by omega) (by omega)
  · have HE := Lib.hid (show encfE f = chkF f from if_neg h0)
    have HM := Lib.hid (show encfM f = [] from if_neg h0)
    have HC := Lib.hid (HP _ (alloc_below w (Obj.cells #[.int .i64 f.id, .int .i64 f.kind, .slice A1 f.name.length c1, .int .i64 f.short, .int .i64 f.size, .int .i64 f.len, .int .i64 f.recs, .int .i64 f.state, .slice A2 f.rules.length c2] 25)))
    have HB := Lib.hid (alloc_below w (Obj.cells #[.int .i64 f.id, .int .i64 f.kind, .slice A1 f.name.length c1, .int .i64 f.short, .int .i64 f.size, .int .i64 f.len, .int .i64 f.recs, .int .i64 f.state, .slice A2 f.rules.length c2] 25))
    rw [HE.out, HM.out]
    clear HE HM HP hn1 hk1 hT hc hl1
    generalize chkF f = E at *
    have he1 : (E != 0) = true := by simpa using h0
    have he2 : (E == 0) = false := by simpa using h0
    have he3 : decide (E = 0) = false := decide_eq_false h0
    go_enter Tryd.func14, Tryd.ntmps14
    go_wp2_with fail
    refine HC.out.mono ?_
    rintro e w1 ⟨rfl, hb1⟩
    have HB1 := Lib.hid (HB.out.trans (hb1.mono HB.out.size))
    clear hb1
    go_wp2_with fail
    go_ret2
    exact ⟨_, rfl, FS.nil _ _ 0 none (Nat.zero_le _), HB1.out⟩
end Go.Proofs.YtkjcafhaenkpbaaDoor
