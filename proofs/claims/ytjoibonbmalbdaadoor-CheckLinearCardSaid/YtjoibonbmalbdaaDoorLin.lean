/-
  The walk of the law CheckLinear.
-/
import Derived.Test.YtjoibonbmalbdaaDoorLaw
import Derived.Deep.RegionHeld3
import Derived.Deep.RegionWith
namespace Go.Proofs.YtjoibonbmalbdaaDoor
open Go.RowKit

theorem xor3_take (a b c : List UInt8) (k : Nat) (h : k < a.length) (h' : k < b.length) (h'' : k < c.length) :
    xor3 (a.take (k + 1)) (b.take (k + 1)) (c.take (k + 1)) = xor3 (a.take k) (b.take k) (c.take k) ++ [(a.getD k 0 ^^^ b.getD k 0) ^^^ c.getD k 0] := by
  unfold xor3
  rw [xorL_take a b k h h', take_snoc c k h'']
  conv => lhs; rw [xorL]
  rw [List.zipWith_append (by simp [xorL]; omega)]
  rfl
theorem sum_xor3 (k : Int) (a b c : List UInt8) (h : a.length = b.length) (h' : b.length = c.length) : sumL k (xor3 a b c) = xor3 (sumL k a) (sumL k b) (sumL k c) := by
  unfold sumL
  split
  · rw [lrcL_xor3 a b c h h']
    rfl
  · split
    · unfold crcB
      rw [crcN_xor3 a b c h h']
      show _ = [(UInt8.ofNat (crcN a % 256) ^^^ UInt8.ofNat (crcN b % 256)) ^^^ UInt8.ofNat (crcN c % 256), (UInt8.ofNat (crcN a / 256) ^^^ UInt8.ofNat (crcN b / 256)) ^^^ UInt8.ofNat (crcN c / 256)]
      have m : ∀ x y : Nat, (x ^^^ y) % 256 = x % 256 ^^^ y % 256 := fun x y => @Nat.xor_mod_two_pow x y 8
      have d : ∀ x y : Nat, (x ^^^ y) / 256 = x / 256 ^^^ y / 256 := fun x y => @Nat.xor_div_two_pow x y 8
      rw [m, m, d, d, ofNat_xor, ofNat_xor, ofNat_xor, ofNat_xor]
    · rfl
theorem xor3_getD (a b c : List UInt8) (k : Nat) (h : k < a.length) (h' : k < b.length) (h'' : k < c.length) : (xor3 a b c).getD k 0 = (a.getD k 0 ^^^ b.getD k 0) ^^^ c.getD k 0 := by
  unfold xor3
  rw [xorL_getD _ _ _ (by simp [xorL]; omega) h'', xorL_getD _ _ _ h h']

/-- Some bytes appended, in a region that draws its order. -/
theorem step_appS {ops : Array Oper} {o : Oper} {a : Act} {W : World} {K : Act → World → Prop} {Q : Exit → Act → World → Prop} {E : Prop} (hgd : o.guard = none) (s x : Operand)
    (ho : o.op = .call { callee := .builtin .append, args := #[s, x], argTypes := #[22, 22] }) (w : World) (base : Nat) (v : Value) (l m : List UInt8) (A : Option Addr) (c : Nat)
    (hs : a.eval s = v) (hx : a.eval x = .slice A m.length c) (hW : Below w.heap.size w W) (hown : OB w base v l)
    (hm : 0 < m.length → ∃ b o, A = some ⟨b, o, none⟩ ∧ ∀ k, k < m.length → W.cell? ⟨b, o + k, none⟩ = some (.int .u8 ((m.getD k 0).toNat : Int)))
    (hlen : l.length + m.length ≤ 100000000) (hbase : base ≤ w.heap.size)
    (h : ∀ v' w', OB w' base v' (l ++ m) → Below base w w' → K (a.put o.dst v') w') :
    if Region.wanted o (yielded ops a.tmps) = true then Oper.wp Tryd.prog o a W K Q else E := by
  have hw : Region.wanted o (yielded ops a.tmps) = true := by simp [Region.wanted, hgd]
  rw [if_pos hw]
  exact wp_appS s x ho w base v l m A c hs hx hW hown hm hlen hbase h

theorem sl_cut {w : World} {B b o c n : Nat} {l : List UInt8} (hn : n ≤ l.length) (hc : c ≤ maxLen) (hl : l.length ≤ c) (hb : b < B) (h : ∀ k, k < l.length → w.cell? ⟨b, o + k, none⟩ = some (.int .u8 ((l.getD k 0).toNat : Int))) : SL w B (.slice (some ⟨b, o, none⟩) n c) (l.take n) :=
  SL.take ⟨_, c, rfl, hl, hc, fun _ => ⟨b, o, rfl, hb, h⟩⟩ hn
theorem cut_any {w : World} {B : Nat} {A : Option Addr} {c n : Nat} {l : List UInt8} (h : SL w B (.slice A l.length c) l) (hn : n ≤ l.length) : SL w B (.slice A n c) (l.take n) := h.take hn

theorem rd_of {w W : World} {A : Option Addr} {c n : Nat} {l : List UInt8} (h : SL w w.heap.size (.slice A n c) l) (hl : l.length = n) (hW : Below w.heap.size w W) (hp : 0 < l.length) :
    ∃ b o, A = some ⟨b, o, none⟩ ∧ ∀ k', k' < l.length → W.cell? ⟨b, o + k', none⟩ = some (.int .u8 ((l.getD k' 0).toNat : Int)) := by
  obtain ⟨A', c', e, h1, h2, h3⟩ := h.on hW
  simp only [Value.slice.injEq] at e
  obtain ⟨rfl, _, _⟩ := e
  obtain ⟨b, o, hA, _, hc⟩ := h3 hp
  exact ⟨b, o, hA, hc⟩

theorem run_min4 (W : World) (x y z u : Int) (N : Nat) (h : min (min (min x y) z) u = (N : Int)) :
    (Builtin.min_ #[3, 3, 3, 3] 3 #[.int .i64 x, .int .i64 y, .int .i64 z, .int .i64 u]).run Tryd.prog W = .ok (.int .i64 (N : Int)) W := by
  rw [← h]
  simp [Builtin.min_, Builtin.min2]
  repeat' split
  all_goals omega

set_option maxRecDepth 100000 in
set_option maxHeartbeats 1600000 in
theorem law_lin (a b c : List UInt8) (va vb vc : Value) (w : World) (ha : SL w w.heap.size va a) (hb : SL w w.heap.size vb b) (hc : SL w w.heap.size vc c) (hT : Tb w) :
    Calls Tryd.prog 9 #[va, vb, vc] w fun e w' => e = .returned (.bool true) ∧ Below w.heap.size w w' := by
  have HA := Lib.hid ha
  have HB := Lib.hid hb
  have HC := Lib.hid hc
  have HT := Lib.hid hT
  obtain ⟨A1, c1, rfl, h11, h12, h13⟩ := ha
  obtain ⟨A2, c2, rfl, h21, h22, h23⟩ := hb
  obtain ⟨A3, c3, rfl, h31, h32, h33⟩ := hc
  unfold maxLen at h12 h22 h32
  obtain ⟨N, hN, hNa, hNb, hNc, hN4⟩ : ∃ N : Nat, min (min (min a.length b.length) c.length) 400 = N ∧ N ≤ a.length ∧ N ≤ b.length ∧ N ≤ c.length ∧ N ≤ 400 := ⟨_, rfl, by omega, by omega, by omega, by omega⟩
  have hmn : ∀ W : World, (Builtin.min_ #[3, 3, 3, 3] 3 #[.int .i64 (a.length : Int), .int .i64 (b.length : Int), .int .i64 (c.length : Int), .int .i64 400]).run Tryd.prog W = .ok (.int .i64 (N : Int)) W := fun W => run_min4 W _ _ _ _ N (by omega)
  clear hT hN
  go_enter Tryd.func9, Tryd.ntmps9
  go_wp2_with fail
  go_loopw [8, 9] (fun d i wr => ∃ k : Nat, k ≤ N ∧ i = .int .i64 k ∧ OB wr w.heap.size d (xor3 (a.take k) (b.take k) (c.take k)) ∧ Below w.heap.size w wr) (fun _ i _ => N - (intOf i).toNat)
  case atStart => exact ⟨0, Nat.zero_le _, rfl, OB.nil _ _, Below.refl _ _⟩
  case round =>
    obtain ⟨k, hk, rfl, hown, hbel⟩ := hrel
    by_cases h1 : k < N
    · obtain ⟨b1, o1, rfl, hb1, hc1⟩ := h13 (by omega)
      obtain ⟨b2, o2, rfl, hb2, hc2⟩ := h23 (by omega)
      obtain ⟨b3, o3, rfl, hb3, hc3⟩ := h33 (by omega)
      have g1 := (hbel.cell (p := ⟨b1, o1 + k, none⟩) hb1).trans (hc1 k (by omega))
      have g2 := (hbel.cell (p := ⟨b2, o2 + k, none⟩) hb2).trans (hc2 k (by omega))
      have g3 := (hbel.cell (p := ⟨b3, o3 + k, none⟩) hb3).trans (hc3 k (by omega))
      have hsz := hbel.size
      have hxl : (xor3 (a.take k) (b.take k) (c.take k)).length ≤ 400 := by simp [xor3, xorL]; omega
      have i0 : (0 : Int) ≤ (k : Int) := by omega
      have i1 : (k : Int) < (a.length : Int) := by omega
      have i2 : (k : Int) < (b.length : Int) := by omega
      have i3 : (k : Int) < (c.length : Int) := by omega
      have l1 : k < a.length := by omega
      have l2 : k < b.length := by omega
      have l3 : k < c.length := by omega
      have HX := Lib.hid (xor3_take a b c k l1 l2 l3)
      go_wp2
      go_region_held3 (fun w' => w'.cell? ⟨b1, o1 + k, none⟩ = some (.int .u8 ((a.getD k 0).toNat : Int)) ∧ w'.cell? ⟨b2, o2 + k, none⟩ = some (.int .u8 ((b.getD k 0).toNat : Int)) ∧ w'.cell? ⟨b3, o3 + k, none⟩ = some (.int .u8 ((c.getD k 0).toNat : Int)))
        (first
          | (go_keep; done)
          | exact ⟨(hb1'.cell (p := ⟨b1, o1 + k, none⟩) hb1).trans g1, (hb1'.cell (p := ⟨b2, o2 + k, none⟩) hb2).trans g2, (hb1'.cell (p := ⟨b3, o3 + k, none⟩) hb3).trans g3⟩)
        ((refine step_app1 (by rfl) _ _ (by rfl) wr w.heap.size u8 _ ((a.getD k 0 ^^^ b.getD k 0) ^^^ c.getD k 0) _ wr.heap.size (by rfl) (by rfl) (((Below.refl _ _).alloc (Nat.le_refl _) _).drew) hown (heap_alloc_new wr _)
            (by rw [bits_xor, bits_xor, gd l1, gd l2, gd l3]) (by omega) (by omega) ?_; intro gg cap w1 hown1 hb1'))
      go_wp2
      go_roundw
      case rel => exact ⟨k + 1, by omega, by go_num, by rw [HX.out]; exact hown1, hbel.trans hb1'⟩
      case measure => simp [intOf]; omega
    · have hkN : k = N := by omega
      subst hkN
      have hD := hown.sl
      have hla : (a.take k).length = k := by rw [List.length_take]; omega
      have hlb : (b.take k).length = k := by rw [List.length_take]; omega
      have hlc : (c.take k).length = k := by rw [List.length_take]; omega
      have HS3 : Hid (∀ q : Int, sumL q (xor3 (a.take k) (b.take k) (c.take k)) = xor3 (sumL q (a.take k)) (sumL q (b.take k)) (sumL q (c.take k))) := fun q => sum_xor3 q _ _ _ (by omega) (by omega)
      have HCA := Lib.hid (cut_any HA.out (n := k) (by omega))
      have HCB := Lib.hid (cut_any HB.out (n := k) (by omega))
      have HCC := Lib.hid (cut_any HC.out (n := k) (by omega))
      have HLA := Lib.hid hla
      have HLB := Lib.hid hlb
      generalize xor3 (a.take k) (b.take k) (c.take k) = D at hD HS3
      clear hla hlb hlc hown
      go_wp2_with fail
      go_loopw [10] (fun q wq => ∃ j : Nat, j ≤ 2 ∧ q = .int .i64 j ∧ Below w.heap.size w wq ∧ SL wq wq.heap.size u8 D) (fun q _ => 2 - (intOf q).toNat)
      case atStart => exact ⟨0, by omega, rfl, hbel, hD⟩
      case round =>
        clear hD hbel
        obtain ⟨j, hj, rfl, hbel, hD⟩ := hrel
        have HD := Lib.hid hD
        clear hD
        by_cases hj2 : j < 2
        · have hE : sumE (j : Int) = 0 := by
            have : j = 0 ∨ j = 1 := by omega
            rcases this with rfl | rfl <;> rfl
          have hsz := sizeK_le (j : Int)
          have H1 := psum_any j (a.take k) _ wr (HCA.out.on hbel) (HT.out.on hbel)
          unfold SumR at H1
          rw [hE] at H1
          have H1 := Lib.hid H1
          have HE := Lib.hid hE
          clear hE
          go_wp2_with fail
          refine H1.out.mono ?_
          rintro e w1 ⟨v1, rfl, hv1, hb1⟩
          have hw1 : Below w.heap.size w w1 := hbel.trans (hb1.mono hbel.size)
          have H2 := psum_any j (b.take k) _ w1 (HCB.out.on hw1) (HT.out.on hw1)
          unfold SumR at H2
          rw [HE.out] at H2
          have H2 := Lib.hid H2
          go_wp2_with fail
          refine H2.out.mono ?_
          rintro e w2 ⟨v2, rfl, hv2, hb2⟩
          have hw2 : Below w.heap.size w w2 := hw1.trans (hb2.mono hw1.size)
          have H3 := psum_any j (c.take k) _ w2 (HCC.out.on hw2) (HT.out.on hw2)
          unfold SumR at H3
          rw [HE.out] at H3
          have H3 := Lib.hid H3
          go_wp2_with fail
          refine H3.out.mono ?_
          rintro e w3 ⟨v3, rfl, hv3, hb3⟩
          have hw3 : Below w.heap.size w w3 := hw2.trans (hb3.mono hw2.size)
          have hD3 := ((HD.out.on hb1).on hb2).on hb3
          have H4 := psum_any j D _ w3 hD3 (HT.out.on hw3)
          unfold SumR at H4
          rw [HE.out, HS3.out] at H4
          have H4 := Lib.hid H4
          go_wp2_with fail
          refine H4.out.mono ?_
          rintro e w4 ⟨v4, rfl, hv4, hb4⟩
          have hw4 : Below w.heap.size w w4 := hw3.trans (hb4.mono hw3.size)
          have HD4 := Lib.hid (hD3.on hb4)
          have k1 := ((hv1.on hb2).on hb3).on hb4
          have k2 := (hv2.on hb3).on hb4
          have k3 := hv3.on hb4
          clear hv1 hv2 hv3 hD3 hb1 hb2 hb3 hb4 H1 H2 H3 H4
          have e1 := sumL_len (j : Int) (a.take k)
          have e2 := sumL_len (j : Int) (b.take k)
          have e3 := sumL_len (j : Int) (c.take k)
          have e4 := xor3_length _ _ _ (e1.trans e2.symm) (e2.trans e3.symm)
          rw [e1] at e4
          have hx3 := xor3_getD (sumL (j : Int) (a.take k)) (sumL (j : Int) (b.take k)) (sumL (j : Int) (c.take k))
          generalize xor3 (sumL (j : Int) (a.take k)) (sumL (j : Int) (b.take k)) (sumL (j : Int) (c.take k)) = z at hv4 e4 hx3
          generalize sumL (j : Int) (a.take k) = x1 at k1 e1 hx3
          generalize sumL (j : Int) (b.take k) = x2 at k2 e2 hx3
          generalize sumL (j : Int) (c.take k) = x3 at k3 e3 hx3
          obtain ⟨A4, c4, rfl, _, m4, r4⟩ := hv4
          obtain ⟨A5, c5, rfl, _, m5, r5⟩ := k1
          obtain ⟨A6, c6, rfl, _, m6, r6⟩ := k2
          obtain ⟨A7, c7, rfl, _, m7, r7⟩ := k3
          have R4 := Lib.hid r4
          have R5 := Lib.hid r5
          have R6 := Lib.hid r6
          have R7 := Lib.hid r7
          have HX3 := Lib.hid hx3
          rw [e1, e2, e3, e4]
          generalize sizeK (j : Int) = s at hsz e1 e2 e3 e4
          have E1 := Lib.hid e1
          have E2 := Lib.hid e2
          have E3 := Lib.hid e3
          have E4 := Lib.hid e4
          clear r4 r5 r6 r7 hx3 e1 e2 e3 e4 m4 m5 m6 m7
          go_wp2_with fail
          go_loopw [19] (fun i wi => ∃ t : Nat, t ≤ s ∧ i = .int .i64 t ∧ ∃ n, wi = w4.drewN n) (fun i _ => s - (intOf i).toNat)
          case atStart => exact ⟨0, Nat.zero_le _, rfl, 0, rfl⟩
          case round =>
            obtain ⟨t, ht, rfl, n, rfl⟩ := hrel
            by_cases hts : t < s
            · obtain ⟨b4, o4, rfl, _, d4⟩ := R4.out (by have := E4.out; omega)
              obtain ⟨b5, o5, rfl, _, d5⟩ := R5.out (by have := E1.out; omega)
              obtain ⟨b6, o6, rfl, _, d6⟩ := R6.out (by have := E2.out; omega)
              obtain ⟨b7, o7, rfl, _, d7⟩ := R7.out (by have := E3.out; omega)
              have g4 := d4 t (by have := E4.out; omega)
              have g5 := d5 t (by have := E1.out; omega)
              have g6 := d6 t (by have := E2.out; omega)
              have g7 := d7 t (by have := E3.out; omega)
              have hx := HX3.out t (by have := E1.out; omega) (by have := E2.out; omega) (by have := E3.out; omega)
              have D4 := Lib.hid d4
              have D5 := Lib.hid d5
              have D6 := Lib.hid d6
              have D7 := Lib.hid d7
              clear d4 d5 d6 d7
              generalize z.getD t 0 = y4 at g4 hx
              generalize x1.getD t 0 = y5 at g5 hx
              generalize x2.getD t 0 = y6 at g6 hx
              generalize x3.getD t 0 = y7 at g7 hx
              have hne : ((bits .xor .u8 (bits .xor .u8 (y5.toNat : Int) (y6.toNat : Int)) (y7.toNat : Int)) != (y4.toNat : Int)) = false := by
                rw [bits_xor, bits_xor, hx]
                simp
              have i0 : (0 : Int) ≤ (t : Int) := by omega
              have i1 : (t : Int) < (s : Int) := by omega
              clear hx
              go_wp2_with fail
              go_quiet (fail)
              go_wp2_with fail
              go_roundw
              case rel => exact ⟨t + 1, by omega, by go_num, dn1 ..⟩
              case measure => simp [intOf]; omega
            · have hts' : t = s := by omega
              subst hts'
              go_wp2_with fail
              go_roundw
              case rel => exact ⟨j + 1, by omega, by go_num, below_drewN hw4 n, HD4.out.on (drewN_below _ w4 n)⟩
              case measure => simp [intOf]; omega
        · have hj' : j = 2 := by omega
          subst hj'
          have H1 := psum_any 0 (a.take k) _ wr (HCA.out.on hbel) (HT.out.on hbel)
          unfold SumR at H1
          have H1 := Lib.hid H1
          go_wp2_with fail
          refine H1.out.mono ?_
          rintro e w1 ⟨v1, rfl, hv1, hb1⟩
          have hw1 : Below w.heap.size w w1 := hbel.trans (hb1.mono hbel.size)
          have H2 := psum_any 0 (b.take k) _ w1 (HCB.out.on hw1) (HT.out.on hw1)
          unfold SumR at H2
          have H2 := Lib.hid H2
          go_wp2_with fail
          refine H2.out.mono ?_
          rintro e w2 ⟨v2, rfl, hv2, hb2⟩
          have hw2 : Below w.heap.size w w2 := hw1.trans (hb2.mono hw1.size)
          have HLK : Hid ((a.take k ++ b.take k).length ≤ 1000) := by show _ ≤ _; rw [List.length_append, HLA.out, HLB.out]; omega
          have HRA := Lib.hid (HCA.out.on hw2)
          have HRB := Lib.hid (HCB.out.on hw2)
          have HSUM : Hid (lrcL (a.take k ++ b.take k) = lrcL (a.take k) ^^^ lrcL (b.take k)) := lrcL_append _ _
          have HRDA : Hid (∀ W : World, Below w2.heap.size w2 W → 0 < (a.take k).length → ∃ b o, A1 = some ⟨b, o, none⟩ ∧ ∀ k', k' < (a.take k).length → W.cell? ⟨b, o + k', none⟩ = some (.int .u8 (((a.take k).getD k' 0).toNat : Int))) := fun W hW hp => rd_of HRA.out HLA.out hW hp
          have HRDB : Hid (∀ W : World, Below w2.heap.size w2 W → 0 < (b.take k).length → ∃ b' o, A2 = some ⟨b', o, none⟩ ∧ ∀ k', k' < (b.take k).length → W.cell? ⟨b', o + k', none⟩ = some (.int .u8 (((b.take k).getD k' 0).toNat : Int))) := fun W hW hp => rd_of HRB.out HLB.out hW hp
          have hmade := OB.made w2
          have i0 : (0 : Int) ≤ (k : Int) := by omega
          have i1 : (k : Int) ≤ (c1 : Int) := by omega
          have i2 : (k : Int) ≤ (c2 : Int) := by omega
          have i3 : (k : Int) ≤ (a.length : Int) := by omega
          have i4 : (k : Int) ≤ (b.length : Int) := by omega
          have hl4 : (a.take k).length ≤ 400 := by rw [HLA.out]; omega
          have hl5 : (b.take k).length ≤ 400 := by rw [HLB.out]; omega
          have HV1 := Lib.hid (hv1.on hb2)
          have HV2 := Lib.hid hv2
          clear hv1 hv2
          go_wp2_with fail
          go_region_held3 (fun _ => True) (exact True.intro) (first
            | (refine step_appS rfl (.tmp 164) (.tmp 167) rfl (w2.alloc (.cells #[] 5)) w2.heap.size _ [] (a.take k) A1 c1 (by rfl) (by rw [HLA.out]; rfl) (by first | exact Below.refl _ _ | exact (Below.refl _ _).drew) hmade (fun hp => HRDA.out _ (by first | exact alloc_below _ _ | exact (alloc_below _ _).drew) hp) (by simp only [List.length_nil]; omega) (by rw [alloc_size]; omega) ?_; intro v5 w5 hv5 hb5)
            | (refine step_appS rfl (.tmp 168) (.tmp 171) rfl w5 w2.heap.size _ ([] ++ a.take k) (b.take k) A2 c2 (by rfl) (by rw [HLB.out]; rfl) (by first | exact Below.refl _ _ | exact (Below.refl _ _).drew) hv5 (fun hp => HRDB.out _ (by first | exact (alloc_below _ _).trans hb5 | exact ((alloc_below _ _).trans hb5).drew) hp) (by simp only [List.nil_append]; omega) (by have := hb5.size; rw [alloc_size] at this; omega) ?_; intro v6 w6 hv6 hb6)
            | (go_at_call 10; refine (psum_any 0 (a.take k ++ b.take k) _ w6 hv6.sl (HT.out.on (hw2.trans ((((alloc_below _ _).trans hb5).trans hb6).mono hw2.size)))).mono ?_; rintro e w7 ⟨v7, rfl, hv7, hb7⟩))
          have hs5 : w2.heap.size ≤ w6.heap.size := by have h5 := hb5.size; have h6 := hb6.size; rw [alloc_size] at h5; omega
          have hb27 : Below w2.heap.size w2 w7 := (((alloc_below _ _).trans hb5).trans hb6).trans (hb7.mono hs5)
          have hw7 : Below w.heap.size w w7 := hw2.trans (hb27.mono hw2.size)
          have k1 : SL w7 w7.heap.size v1 [lrcL (a.take k)] := HV1.out.on hb27
          have k2 : SL w7 w7.heap.size v2 [lrcL (b.take k)] := HV2.out.on hb27
          have k3 : SL w7 w7.heap.size v7 [lrcL (a.take k ++ b.take k)] := hv7
          rw [HSUM.out] at k3
          obtain ⟨A5, c5, rfl, _, _, r5⟩ := k1
          obtain ⟨b5, o5, rfl, _, d5⟩ := r5 (by simp)
          obtain ⟨A6, c6, rfl, _, _, r6⟩ := k2
          obtain ⟨b6, o6, rfl, _, d6⟩ := r6 (by simp)
          obtain ⟨A7, c7, rfl, _, _, r7⟩ := k3
          obtain ⟨b7, o7, rfl, _, d7⟩ := r7 (by simp)
          generalize lrcL (a.take k) = y5 at d5 d7 ⊢
          generalize lrcL (b.take k) = y6 at d6 d7 ⊢
          have g5 : w7.cell? ⟨b5, o5, none⟩ = some (.int .u8 (y5.toNat : Int)) := d5 0 (by simp)
          have g6 : w7.cell? ⟨b6, o6, none⟩ = some (.int .u8 (y6.toNat : Int)) := d6 0 (by simp)
          have g7 : w7.cell? ⟨b7, o7, none⟩ = some (.int .u8 ((y5 ^^^ y6).toNat : Int)) := d7 0 (by simp)
          have hxx : (bits .xor .u8 (y5.toNat : Int) (y6.toNat : Int) == ((y5 ^^^ y6).toNat : Int)) = true := by rw [bits_xor]; simp
          generalize y5 ^^^ y6 = y7 at g7 hxx
          have HT7 := Lib.hid (HT.out.on hw7)
          have HW7 := Lib.hid hw7
          clear d5 d6 d7 r5 r6 r7 hv7 hb5 hb6 hb7 hw7 hs5 hb27 hw2 hbel hw1 hmade hv5 hv6 hb2 hb1
          go_wp2_with fail
          go_region_held3 (fun w' => w'.cell? ⟨b5, o5, none⟩ = some (.int .u8 (y5.toNat : Int)) ∧ w'.cell? ⟨b6, o6, none⟩ = some (.int .u8 (y6.toNat : Int)) ∧ w'.cell? ⟨b7, o7, none⟩ = some (.int .u8 (y7.toNat : Int)))
            (first
              | (go_keep; done)
              | exact ⟨(hb8.cell (p := ⟨b5, o5, none⟩) (World.block_lt_of_cell? w7 _ g5)).trans g5, (hb8.cell (p := ⟨b6, o6, none⟩) (World.block_lt_of_cell? w7 _ g6)).trans g6, (hb8.cell (p := ⟨b7, o7, none⟩) (World.block_lt_of_cell? w7 _ g7)).trans g7⟩)
            ((go_at_call 15; refine (awake_any _ (by first | exact HT7.out | exact HT7.out.on (Below.refl _ _).drew)).mono ?_; rintro e w8 ⟨rfl, hb8⟩))
          go_wp2_with fail
          go_ret
          exact ⟨rfl, (HW7.out.drew).trans (hb8.mono (HW7.out.drew).size)⟩
end Go.Proofs.YtjoibonbmalbdaaDoor
