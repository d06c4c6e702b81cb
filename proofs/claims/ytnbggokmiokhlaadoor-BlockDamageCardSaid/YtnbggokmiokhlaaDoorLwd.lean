/-
  The walk of the law BlockDamage.
-/
import Derived.Test.YtnbggokmiokhlaaDoorLwc
namespace Go.Proofs.YtnbggokmiokhlaaDoor
set_option linter.unusedVariables false
set_option linter.unusedSimpArgs false
open Go.RowKit

set_option maxRecDepth 100000 in
set_option maxHeartbeats 3200000 in
theorem law_dam (b : Bk) (n : Int) (crc : Bool) (v : Value) (w : World) (hv : SL w w.heap.size v b.inf) (hT : Tb w) (hn : n ≤ 9223372036854775807) :
    Calls Tryd.prog 18 #[b.val v, .int .i64 n, .bool crc] w fun e w' => e = .returned (.bool true) ∧ Below w.heap.size w w' := by
  by_cases h4 : 300 < b.inf.length
  · obtain ⟨A, c, rfl, _, _, _⟩ := hv
    obtain ⟨nad, kind, s, m, code, ans, l⟩ := b
    simp only [Bk.val] at *
    go_enter Tryd.func18, Tryd.ntmps18
    go_wp2_with fail
    go_ret
    exact ⟨rfl, alloc_below _ _⟩
  by_cases hneg : n < 0
  · obtain ⟨A, c, rfl, _, _, _⟩ := hv
    obtain ⟨nad, kind, s, m, code, ans, l⟩ := b
    simp only [Bk.val] at *
    go_enter Tryd.func18, Tryd.ntmps18
    go_wp2_with fail
    go_ret
    exact ⟨rfl, alloc_below _ _⟩
  obtain ⟨m', rfl⟩ := Int.eq_ofNat_of_zero_le (show 0 ≤ n by omega)
  have HV := Lib.hid hv
  have HT := Lib.hid hT
  have HA := Lib.hid (fun (W : World) (hW : Below w.heap.size w W) => awake_any W (HT.out.on hW))
  obtain ⟨k, hkc⟩ : ∃ k : Int, k = if crc then 1 else 0 := ⟨_, rfl⟩
  have HEN := fun (W : World) (hW : Below w.heap.size w W) => penc_any k b _ W (HV.out.on hW) (HT.out.on hW)
  unfold BenR at HEN
  have hinf : b.inf.length ≤ 300 := by omega
  have HROWN : ∀ (nad kind s : Int) (m : Bool) (code : Int) (ans : Bool) (l : List UInt8) (A : Option Addr) (c : Nat), Below w.heap.size w (w.alloc (.cells #[.int .i64 nad, .int .i64 kind, .int .i64 s, .bool m, .int .i64 code, .bool ans, .slice A l.length c] 47)) := fun _ _ _ _ _ _ _ _ _ => alloc_below _ _
  have HROWN := Lib.hid HROWN
  by_cases hE : benE k b = 0
  · have hlen := ben_len hE
    obtain ⟨a, ha⟩ : ∃ a, a = m' % (8 * (benV k b).length) := ⟨_, rfl⟩
    have hal : a < 8 * (benV k b).length := by rw [ha]; exact Nat.mod_lt _ (by omega)
    have hdam := damage hE a hal
    rw [hE] at HEN
    generalize hx : benV k b = x at *
    have HP : Hid (∀ (v : Value) (W : World), SL W W.heap.size v (x.set (a / 8) (x.getD (a / 8) 0 ^^^ bitB (a % 8))) → Tb W → Calls Tryd.prog 44 #[v, .int .i64 k] W fun e w' => ∃ v', e = .returned (.tuple #[zeroB.val v', .int .i64 6]) ∧ SL w' w'.heap.size v' [] ∧ Below W.heap.size W w') := by
      intro v W h1 h2
      have := pbde_any k _ v W h1 h2 (by rw [List.length_set]; omega)
      unfold BdeR at this
      rw [hdam.1, hdam.2] at this
      exact this
    have HSB := fun (v1 v2 : Value) (W : World) (h3 : SL W W.heap.size v1 []) (h4 : SL W W.heap.size v2 []) => rsameb_any zeroB zeroB v1 v2 W h3 h4
    rw [sameB_self] at HSB
    simp only [zeroB, Bk.val] at HSB HP
    have HSB := Lib.hid HSB
    have HEN := Lib.hid HEN
    have HM : Hid ((m' : Int) % (8 * (x.length : Int)) = (a : Int)) := by show _ = _; rw [ha, Int.natCast_emod]; rfl
    have hx1 : 1 ≤ x.length := by omega
    have hx2 : x.length ≤ 500 := by omega
    have hx3 : ((x.length : Int) == 0) = false := by rw [beq_eq_false_iff_ne]; omega
    obtain ⟨A, c, rfl, _, _, _⟩ := hv
    obtain ⟨nad, kind, s, m, code, ans, l⟩ := b
    simp only [Bk.val] at *
    have HW := Lib.hid (HROWN.out nad kind s m code ans l A c)
    clear hT ha hdam hx hE hlen h4 hneg HROWN
    cases crc
    all_goals
      simp only [Bool.false_eq_true, if_false, if_true] at hkc
      subst hkc
      go_enter Tryd.func18, Tryd.ntmps18
      go_wp2_with fail
      refine (HEN.out _ HW.out).mono ?_
      rintro e w1 ⟨v1, rfl, hv1, hb1'⟩
      have hb1 : Below w.heap.size w w1 := HW.out.trans (hb1'.mono HW.out.size)
      obtain ⟨A1, c1, rfl, _, _, r1⟩ := hv1
      have R1 := Lib.hid r1
      clear r1 hb1'
      go_wp2_with (at_builtin; refine wpList_appS rfl (.tmp 39) (.tmp 40) rfl (w1.alloc (.cells #[] 5)) w1.heap.size _ [] x A1 c1 rfl rfl (Below.refl _ _) (OB.made _) (fun hp => by obtain ⟨b, o, hA, hb, hc⟩ := R1.out hp; exact ⟨b, o, hA, fun k' hk' => ((alloc_below w1 (.cells #[] 5)).cell (p := ⟨b, o + k', none⟩) hb).trans (hc k' hk')⟩) (by simp only [List.length_nil]; omega) (by rw [alloc_size]; omega) ?_; intro v2 w2 hv2 hb2)
      rw [HM.out]
      have hv2' : OB w2 w1.heap.size v2 x := hv2
      clear hv2
      obtain ⟨g, cap, rfl, _, _⟩ := World.ownsRow.form hv2' (by omega)
      have g3 := hv2'.cellAt (a / 8) (by omega)
      have g4 := hv2'.frozenAt (a / 8)
      have i0 : (0 : Int) ≤ (a : Int) / 8 := by omega
      have i1 : (a : Int) / 8 < (x.length : Int) := by omega
      have i2 : (0 : Int) ≤ (a : Int) % 8 := by omega
      have i3 : (a : Int) % 8 < 8 := by omega
      go_region
      have hval : bits .xor .u8 (((x[a / 8]?.getD 0).toNat : Nat) : Int) (2 ^ (a % 8) % 256) = ((x.getD (a / 8) 0 ^^^ bitB (a % 8)).toNat : Int) := by
        rw [shl_bit _ (Nat.mod_lt _ (by omega)), bits_xor]
        rfl
      rw [hval]
      have hwb : Below w1.heap.size w1 w2 := (alloc_below _ _).trans (hb2)
      have hst := ((hv2'.stored (a / 8) (x.getD (a / 8) 0 ^^^ bitB (a % 8)) _ rfl).sl).on ((Below.refl _ _).drew)
      have hgb := hv2'.base_le
      have hw2 : Below w.heap.size w (w2.setCell ⟨g, a / 8, none⟩ (.int .u8 ((x.getD (a / 8) 0 ^^^ bitB (a % 8)).toNat : Int))).drew := ((hb1.trans (hwb.mono hb1.size)).setCell (p := ⟨g, a / 8, none⟩) (Nat.le_trans hb1.size hgb) _).drew
      have H3 := HP.out _ _ hst (HT.out.on hw2)
      clear hval hst hwb g3 g4 hv2'
      generalize (w2.setCell ⟨g, a / 8, none⟩ (.int .u8 ((x.getD (a / 8) 0 ^^^ bitB (a % 8)).toNat : Int))).drew = w3 at hw2 H3 ⊢
      have H3 := Lib.hid H3
      go_wp2_with fail
      refine H3.out.mono ?_
      rintro e w4 ⟨v4, rfl, hv4, hb4⟩
      have hw4 : Below w.heap.size w w4 := hw2.trans (hb4.mono hw2.size)
      have HV4 := Lib.hid hv4
      obtain ⟨A4, c4, rfl, _, _, _⟩ := hv4
      have hal4 := alloc_below w4 (.cells #[.int .i64 0, .int .i64 0, .int .i64 0, .bool false, .int .i64 0, .bool false, .slice A4 0 c4] 47)
      have HW5 := Lib.hid (hw4.trans (hal4.mono hw4.size))
      have HS5 := Lib.hid (HSB.out _ _ _ (HV4.out.on hal4) (SL.nil (w4.alloc (.cells #[.int .i64 0, .int .i64 0, .int .i64 0, .bool false, .int .i64 0, .bool false, .slice A4 0 c4] 47)) _ 0 none (Nat.zero_le _)))
      clear hal4 hb4
      go_wp2_with fail
      refine HS5.out.mono ?_
      rintro e w5 ⟨rfl, hb5⟩
      have HW6 := Lib.hid (HW5.out.trans (hb5.mono HW5.out.size))
      clear hb5
      go_wp2_with fail
      refine (HA.out _ HW6.out).mono ?_
      rintro e w6 ⟨rfl, hb6⟩
      go_wp2_with fail
      go_ret
      exact ⟨rfl, HW6.out.trans (hb6.mono HW6.out.size)⟩
  · have e1 : (benE k b != 0) = true := by rw [bne_iff_ne]; exact hE
    have e2 : (benE k b == 0) = false := beq_eq_false_iff_ne.2 hE
    generalize benE k b = E at *
    generalize benV k b = V at *
    have HEN := Lib.hid HEN
    obtain ⟨A, c, rfl, _, _, _⟩ := hv
    obtain ⟨nad, kind, s, m, code, ans, l⟩ := b
    simp only [Bk.val] at *
    have HW := Lib.hid (HROWN.out nad kind s m code ans l A c)
    clear hT hE h4 hneg HROWN
    cases crc
    all_goals
      simp only [Bool.false_eq_true, if_false, if_true] at hkc
      subst hkc
      go_enter Tryd.func18, Tryd.ntmps18
      go_wp2_with fail
      refine (HEN.out _ HW.out).mono ?_
      rintro e w1 ⟨v1, rfl, hv1, hb1⟩
      have HW1 := Lib.hid (HW.out.trans (hb1.mono HW.out.size))
      clear hb1 hv1
      go_wp2_with fail
      refine (HA.out _ HW1.out).mono ?_
      rintro e w6 ⟨rfl, hb6⟩
      go_wp2_with fail
      go_ret
      exact ⟨rfl, HW1.out.trans (hb6.mono HW1.out.size)⟩
end Go.Proofs.YtnbggokmiokhlaaDoor
