/-
  Layer 20: the reference's Hash.
-/
import Derived.Test.YtndkkkkfgihemaaMol
namespace Go.Proofs.Ytndkkkkfgihemaa
set_option linter.unusedVariables false
set_option linter.unusedSimpArgs false
open Go.RowKit

set_option maxRecDepth 100000 in
set_option maxHeartbeats 800000 in
theorem rpad_own (l : List UInt8) (v : Value) (n : Nat) (w : World) (hl : SL w w.heap.size v l) (h : 1 ≤ n) (h' : n ≤ 65536) (hs : l.length ≤ 60000) :
    Calls Try.prog 36 #[v, .int .i64 n] w fun e w' => ∃ v', e = .returned (.tuple #[v', .int .i64 0]) ∧ OB w' w.heap.size v' (padL l n) ∧ Below w.heap.size w w' := by
  obtain ⟨A1, c1, rfl, h11, h12, h13⟩ := hl
  unfold maxLen at h12
  obtain ⟨r1, r2⟩ := pad_room l.length n h
  have hmid := pad_mid l.length n
  obtain ⟨m, hm⟩ : ∃ m, m = (l.length / n + 1) * n := ⟨_, rfl⟩
  have hmn : m % n = 0 := by rw [hm, Nat.mul_mod_left]
  rw [← hm] at r1 r2 hmid
  have HD := Lib.hid hmid
  have HN := Lib.hid hmn
  have HM := Lib.hid hm
  clear hm hmn hmid
  go_enter Try.func36, Try.ntmps36
  go_wp2_with (first
    | (at_builtin; refine wpList_appS rfl (.tmp 13) (.tmp 14) rfl (w.alloc (.cells #[] 5)) w.heap.size _ [] l A1 c1 rfl rfl (Below.refl _ _) (OB.made w) (fun hp => by obtain ⟨b, o, hA, hb, hc⟩ := h13 hp; exact ⟨b, o, hA, fun k hk => (((Below.refl _ w).alloc (Nat.le_refl _) _).cell (p := ⟨b, o + k, none⟩) hb).trans (hc k hk)⟩) (by simp; omega) (by simp) ?_; intro v1 w1 hown1 hb1)
    | (at_builtin; refine wpList_app1 rfl (.tmp 15) (.tmp 16) rfl w1 w.heap.size v1 ([] ++ l) 128 128 w1.heap.size rfl rfl ((Below.refl _ _).alloc (Nat.le_refl _) _) hown1 (heap_alloc_new w1 _) rfl (by simp; omega) (by have := hb1.size; simp at this; omega) ?_; intro g cap w2 hown2 hb2))
  have hbw : Below w.heap.size w w2 := (((Below.refl _ w).alloc (Nat.le_refl _) _).trans hb1).trans hb2
  simp only [List.nil_append] at hown2
  clear hown1 hb1 hb2
  go_loopw [6] (fun o wr => ∃ (x g c : Nat), l.length + 1 ≤ x ∧ x ≤ m ∧ o = .slice (some ⟨g, 0, none⟩) x c ∧ OB wr w.heap.size (.slice (some ⟨g, 0, none⟩) x c) ((l ++ [128]) ++ List.replicate (x - (l.length + 1)) 0) ∧ Below w.heap.size w wr) (fun o _ => m - lenV o)
  case atStart => exact ⟨l.length + 1, g, cap, Nat.le_refl _, by omega, rfl, by simpa using hown2, hbw⟩
  case round =>
    obtain ⟨x, gg, cc, hx1, hx2, rfl, hown, hbel⟩ := hrel
    have hsz := hbel.size
    by_cases h1 : x < m
    · have ht : (((x : Nat) : Int) % (n : Int) != 0) = true := by
        have := HD.out x h (by omega) h1
        rw [bne_iff_ne, ← Int.natCast_emod]
        omega
      go_wp2_with (at_builtin; refine wpList_app1 rfl (.tmp 23) (.tmp 24) rfl wr w.heap.size _ _ 0 0 wr.heap.size rfl rfl ((Below.refl _ _).alloc (Nat.le_refl _) _) hown (heap_alloc_new wr _) rfl (by simp; omega) (by omega) ?_; intro g3 cap3 w3 hown3 hb3)
      have hv : l.length + (x - (l.length + 1) + 1) + 1 = x + 1 := by omega
      have hk : (l ++ [128] ++ List.replicate (x - (l.length + 1)) 0).length + 1 = x + 1 := by simp; omega
      have he : (l ++ [128] ++ List.replicate (x - (l.length + 1)) 0) ++ [0] = (l ++ [128]) ++ List.replicate (x + 1 - (l.length + 1)) 0 := by
        rw [List.append_assoc, ← List.replicate_succ', show x - (l.length + 1) + 1 = x + 1 - (l.length + 1) from by omega]
      rw [hk, he] at hown3
      go_roundw
      case rel => exact ⟨x + 1, g3, cap3, by omega, by omega, by rw [hv], hown3, hbel.trans hb3⟩
      case measure => simp only [lenV]; omega
    · have hxm : x = m := by omega
      subst hxm
      have ht : (((x : Nat) : Int) % (n : Int) != 0) = false := by
        have := HN.out
        rw [bne_eq_false_iff_eq, ← Int.natCast_emod]
        omega
      go_wp2
      go_ret2
      refine ⟨_, rfl, ?_, hbel⟩
      rw [padL, ← HM.out]
      exact hown

theorem hashP_nil (p : List UInt8) : hashP p (List.range 0) = List.replicate 16 0 := by simp [hashP]
theorem hash_join (p u : List UInt8) (n : Nat) (hp : p.length = 8 * n) (hu : u.length = 8) : hashP (p ++ u) (List.range (n + 1)) = hashA (hashP p (List.range n)) u := by
  have key : ∀ j, j ≤ n → hashP (p ++ u) (List.range j) = hashP p (List.range j) := by
    intro j
    induction j with
    | zero => intro _; rw [hashP_nil, hashP_nil]
    | succ j ih =>
      intro hj
      rw [List.range_succ, hashP_snoc, hashP_snoc, ih (by omega), blk_append p u j n hp (by omega)]
  rw [List.range_succ, hashP_snoc, key n (Nat.le_refl _), blk_last p u n hp hu]
theorem xor_parts (a b h : List UInt8) (ha : a.length = 8) (hh : h.length = 16) : xorL (a ++ b) h = xorL a (h.take 8) ++ xorL b (h.drop 8) := by
  unfold xorL
  rw [← List.zipWith_append (by rw [ha, List.length_take]; omega), List.take_append_drop]
theorem hashA_parts (h x : List UInt8) (hh : h.length = 16) : hashA h x = xorL (encB h x) (h.take 8) ++ xorL (encB h (invL x)) (h.drop 8) :=
  xor_parts _ _ h (encB_length h x) hh
theorem inv_sub (y : UInt8) : (255 : Int) - (y.toNat : Int) = ((~~~y).toNat : Int) := by
  have := u8_lt y
  rw [UInt8.toNat_not]
  show _ = ((256 - 1 - y.toNat : Nat) : Int)
  omega
set_option maxRecDepth 100000 in
set_option maxHeartbeats 3200000 in
theorem rhash_any (d : List UInt8) (v : Value) (w : World) (hd : SL w w.heap.size v d) (hs : d.length ≤ 5000) :
    Calls Try.prog 35 #[v] w fun e w' => ∃ v', e = .returned v' ∧ SL w' w'.heap.size v' (hashL d) ∧ Below w.heap.size w w' := by
  have HP := Lib.hid (rpad_own d v 8 w hd (by omega) (by omega) (by omega))
  have HU := Lib.hid (fun W => rput_any d.length 8 W (by omega) (by omega) (by omega) (fun e w' => ∃ v', e = .returned (.tuple #[v', .int .i64 0]) ∧ SL w' w'.heap.size v' (putL d.length 8) ∧ Below W.heap.size W w') (fun _ v' w' h1 h2 => ⟨v', rfl, h1, h2⟩) (fun h => by
    have : (256 : Nat) ^ 8 = 18446744073709551616 := by decide
    omega))
  have hpl := padL_len d
  obtain ⟨n, hn⟩ : ∃ n, n = d.length / 8 + 1 := ⟨_, rfl⟩
  have hul := putL_length d.length 8
  rw [← hn] at hpl
  have HR : Hid (hashL d = hashP (padL d 8 ++ putL d.length 8) (List.range (n + 1))) := by show _ = _; rw [hash_join _ _ n hpl hul, hashL, hn]
  generalize hashL d = r at *
  generalize padL d 8 = p at *
  generalize putL d.length 8 = u at *
  obtain ⟨A1, c1, rfl, h11, h12, h13⟩ := hd
  clear h13
  have HPL := Lib.hid hpl
  have HUL := Lib.hid hul
  have hn9 : n ≤ 1000 := by omega
  clear hpl hul hn
  go_enter Try.func35, Try.ntmps35
  go_wp2_with fail
  refine HP.out.mono ?_
  rintro e w1 ⟨v1, rfl, hv1, hb1⟩
  obtain ⟨A2, c2, rfl⟩ := hv1.value
  go_wp2_with fail
  refine (HU.out _).mono ?_
  rintro e w2 ⟨v2, rfl, hv2, hb2⟩
  have b2 := after hb1 hb2
  have hv12 := hv1.later hb2
  obtain ⟨A3, c3, rfl, h31, h32, h33⟩ := hv2
  have HR3 := Lib.hid (fun hp => by obtain ⟨b6, o6, hA, _, hc6⟩ := h33 hp; exact (⟨b6, o6, hA, hc6⟩ : ∃ b6 o6, A3 = some ⟨b6, o6, none⟩ ∧ ∀ k, k < u.length → w2.cell? ⟨b6, o6 + k, none⟩ = some (.int .u8 ((u.getD k 0).toNat : Int))))
  have HSZ : Hid (p.length + u.length ≤ 100000000) := by show _ ≤ _; rw [HPL.out, HUL.out]; omega
  clear h33
  go_wp2_with (first
    | (at_builtin; refine wpList_appS rfl _ _ rfl w2 w.heap.size _ p u A3 c3 rfl rfl (Below.refl _ _) hv12 HR3.out HSZ.out b2.size ?_; intro v3 w3 hv3 hb3; obtain ⟨A4, c4, rfl⟩ := hv3.value)
    | (at_make; refine wpList_mk rfl _ _ rfl .i64 .i64 _ _ 16 rfl rfl rfl rfl (by omega) ?_; intro w4 hown4 hb4))
  have b3 : Below w.heap.size w w3 := b2.trans hb3
  have b4 : Below w.heap.size w w4 := after b3 hb4
  have hblocks := (hv3.sl.on hb4)
  have hh0 : SL w4 w4.heap.size (.slice (some ⟨w3.heap.size, 0, none⟩) 16 16) (hashP (p ++ u) (List.range 0)) := by rw [hashP_nil]; exact hown4.sl
  obtain ⟨q, hq⟩ : ∃ q, q = p ++ u := ⟨_, rfl⟩
  rw [← hq] at hblocks hh0 HR
  have HQL : Hid (q.length = 8 * n + 8) := by show _ = _; rw [hq, List.length_append, HPL.out, HUL.out]
  clear hq hv3 hown4 hv1 hv12 hb1 hb2 hb3 hb4 HU HP HSZ HR3
  obtain ⟨A4', c4', e4, h41, h42, h43⟩ := hblocks
  injection e4 with ea eb ec
  subst ea ec
  clear eb
  simp only [List.length_append, HPL.out, HUL.out]
  have HBK : Hid (∀ i W, i < n + 1 → Below w4.heap.size w4 W → ∃ b3 o3, A4 = some ⟨b3, o3, none⟩ ∧ SL W W.heap.size (.slice (some ⟨b3, o3 + 8 * i, none⟩) 8 (c4 - 8 * i)) (blk q i)) := fun i W hi hb => by
    have hql := HQL.out
    obtain ⟨b3, o3, rfl, hb3, hc3⟩ := h43 (by omega)
    refine ⟨b3, o3, rfl, ?_⟩
    exact SL.on (w := w4) ⟨some ⟨b3, o3 + 8 * i, none⟩, c4 - 8 * i, by rw [blk_len q i (by omega)], by rw [blk_len q i (by omega)]; omega, by omega, Rd.take (Rd.drop h43 (8 * i) (by omega)) 8⟩ hb
  have h41' : 8 * n + 8 ≤ c4 := by have := HQL.out; omega
  clear h43 h41
  unfold maxLen at h42
  go_loopw [7, 8] (fun h i wr => ∃ j : Nat, j ≤ n + 1 ∧ i = .int .i64 ((8 * j : Nat) : Int) ∧ SL wr wr.heap.size h (hashP q (List.range j)) ∧ Below w4.heap.size w4 wr) (fun _ i _ => 8 * n + 8 - (intOf i).toNat)
  case atStart => exact ⟨0, by omega, rfl, hh0, Below.refl _ _⟩
  case round =>
    obtain ⟨j, hj, rfl, hh, hbel⟩ := hrel
    by_cases hlt : j < n + 1
    · obtain ⟨b3', o3', rfl, hx⟩ := HBK.out j wr hlt hbel
      have hxl := blk_len q j (by rw [HQL.out]; omega)
      have hhl := hashP_len q (List.range j)
      have HS : Hid (hashP q (List.range (j + 1)) = hashA (hashP q (List.range j)) (blk q j)) := by show _ = _; rw [List.range_succ, hashP_snoc]
      generalize hashP q (List.range j) = hv at *
      generalize blk q j = x at *
      have HX := Lib.hid hx
      have HH := Lib.hid hh
      have HXL := Lib.hid hxl
      have HHL := Lib.hid hhl
      obtain ⟨A5, c5, rfl, h51, h52, h53'⟩ := id hh
      obtain ⟨Ax, cx, ex, hx1, hx2, hx3⟩ := id hx
      injection ex with exa exb exc
      subst exa exc
      obtain ⟨bx, ox, exx, hbx, hcx⟩ := hx3 (by omega)
      injection exx with exx
      injection exx with e1 e2
      subst e1 e2
      have HCX := Lib.hid (fun k (hk : k < 8) => hcx k (by omega))
      have HI := Lib.hid (fun k (hk : k < 8) => inv_step x k (by omega))
      rw [hhl] at HH h51 ⊢
      have ix : ((8 * j : Nat) : Int) + 8 ≤ (c4 : Int) := by omega
      have ix2 : ((8 * j : Nat) : Int) < ((8 * n + 8 : Nat) : Int) := by omega
      have ix5 : ((8 * j : Nat) : Int) ≤ ((8 * j : Nat) : Int) + 8 := by omega
      clear hx hh hxl hcx hx3 exb hx1 hx2
      obtain ⟨m, hm⟩ : ∃ m, m = 8 * j := ⟨_, rfl⟩
      rw [← hm] at HX HCX ix ix2 ix5 ⊢
      have HM := Lib.hid hm
      clear hm
      obtain ⟨b5, o5, rfl, hb5, hc5⟩ := h53' (by omega)
      have HT8 := Lib.hid (show SL wr wr.heap.size (.slice (some ⟨b5, o5, none⟩) 8 c5) (hv.take 8) from ⟨some ⟨b5, o5, none⟩, c5, by rw [List.length_take, HHL.out]; rfl, by rw [List.length_take, HHL.out]; omega, h52, Rd.take h53' 8⟩)
      have HD8 := Lib.hid (show SL wr wr.heap.size (.slice (some ⟨b5, o5 + 8, none⟩) 8 (c5 - 8)) (hv.drop 8) from ⟨some ⟨b5, o5 + 8, none⟩, c5 - 8, by rw [List.length_drop, HHL.out], by rw [List.length_drop, HHL.out]; omega, by omega, Rd.drop h53' 8 (by rw [HHL.out]; omega)⟩)
      have HE1 := Lib.hid (fun W (hb : Below wr.heap.size wr W) => renc_any hv x _ _ W (HH.out.on hb) (HX.out.on hb))
      have HE2 := Lib.hid (fun W vt (hb : Below wr.heap.size wr W) (ht : SL W W.heap.size vt (invL x)) => renc_any hv (invL x) _ vt W (HH.out.on hb) ht)
      have f1 : fitE hv x = 0 := fit_ok HHL.out HXL.out
      have f2 : fitE hv (invL x) = 0 := fit_ok HHL.out (by rw [invL_len]; exact HXL.out)
      rw [encM, if_pos f1, f1] at HE1
      rw [encM, if_pos f2, f2] at HE2
      have HS2 : Hid (hashP q (List.range (j + 1)) = xorL (encB hv x) (hv.take 8) ++ xorL (encB hv (invL x)) (hv.drop 8)) := by show _ = _; rw [HS.out, hashA_parts hv x HHL.out]
      have L1 := Lib.hid (encB_length hv x)
      have L2 := Lib.hid (encB_length hv (invL x))
      generalize encB hv x = r1 at *
      generalize encB hv (invL x) = r2 at *
      have T8 : (hv.take 8).length = 8 := by rw [List.length_take, HHL.out]; rfl
      have D8 : (hv.drop 8).length = 8 := by rw [List.length_drop, HHL.out]
      have X1 := Lib.hid (fun W va (hb : Below wr.heap.size wr W) (h : SL W W.heap.size va r1) => rxor_any r1 (hv.take 8) va _ W h (HT8.out.on hb) L1.out T8)
      have X2 := Lib.hid (fun W va (hb : Below wr.heap.size wr W) (h : SL W W.heap.size va r2) => rxor_any r2 (hv.drop 8) va _ W h (HD8.out.on hb) L2.out D8)
      have M1 := Lib.hid (xor_len8 L1.out T8)
      have M2 := Lib.hid (xor_len8 L2.out D8)
      generalize xorL r1 (hv.take 8) = y1 at *
      generalize xorL r2 (hv.drop 8) = y2 at *
      have h51' : 16 ≤ c5 := h51
      unfold maxLen at h52
      clear f1 f2 T8 D8 HS h53' hc5
      obtain ⟨wo, hwo⟩ : ∃ z, z = wr := ⟨_, rfl⟩
      subst hwo
      go_wp2_with fail
      go_loopw [10, 11] (fun tn k wk => ∃ kk : Nat, kk ≤ 8 ∧ k = .int .i64 kk ∧ OB wk wo.heap.size tn (invL (x.take kk)) ∧ Below wo.heap.size wo wk) (fun _ k _ => 8 - (intOf k).toNat)
      case atStart => exact ⟨0, by omega, rfl, by simpa [invL] using OB.nil wo wo.heap.size, Below.refl _ _⟩
      case round =>
        obtain ⟨kk, hkk, rfl, hown, hbk⟩ := hrel
        obtain ⟨At, ct, rfl⟩ := hown.value
        by_cases hk8 : kk < 8
        · have g1 := (hbk.cell (p := ⟨b3', o3' + m + kk, none⟩) hbx).trans (HCX.out kk hk8)
          have HIK := Lib.hid (HI.out kk hk8)
          have HZ := Lib.hid (inv_sub (x.getD kk 0))
          have hy := u8_lt (x.getD kk 0)
          have HLE : Hid ((invL (x.take kk)).length ≤ 10000000) := by show _ ≤ _; rw [invL_len, List.length_take]; omega
          generalize x.getD kk 0 = y at *
          generalize invL (x.take kk) = tq at *
          go_wp2_with (at_builtin; refine wpList_app1 rfl (.tmp 47) (.tmp 53) rfl wr wo.heap.size _ tq (~~~y) _ wr.heap.size rfl rfl ((Below.refl _ _).alloc (Nat.le_refl _) _) hown (heap_alloc_new wr _) HZ.out HLE.out hbk.size ?_; intro g9 cap9 w9 hv9 hb9)
          go_roundw
          case rel => exact ⟨kk + 1, by omega, by go_num, by rw [HIK.out]; exact hv9, hbk.trans hb9⟩
          case measure => simp [intOf]; omega
        · have e8 : kk = 8 := by omega
          subst e8
          have hit : invL (x.take 8) = invL x := by rw [List.take_of_length_le (by rw [HXL.out]; omega)]
          rw [hit] at hown ⊢
          have HIL : Hid ((invL x).length = 8) := by show _ = _; rw [invL_len]; exact HXL.out
          have HOW := Lib.hid hown.sl
          clear hit hown
          generalize invL x = tq at *
          rw [HIL.out]
          rw [HIL.out] at HOW
          go_wp2_with fail
          refine (HE1.out _ hbk).mono ?_
          rintro e w5 ⟨v5, rfl, hv5, hb5'⟩
          have c5' : Below wo.heap.size wo w5 := after hbk hb5'
          go_wp2_with fail
          refine (HE2.out _ _ c5' (HOW.out.on hb5')).mono ?_
          rintro e w6 ⟨v6, rfl, hv6, hb6⟩
          have c6' := after c5' hb6
          have hv56 := hv5.sl.on hb6
          go_wp2_with fail
          refine (X1.out _ _ c6' hv56).mono ?_
          rintro e w7 ⟨v7, rfl, hv7, hb7⟩
          have c7' := after c6' hb7
          obtain ⟨A7, c7, rfl⟩ := hv7.value
          have HR7 := Lib.hid hv7.rd
          have HV6 := Lib.hid (hv6.sl.on hb7)
          have HSZ1 : Hid (([] : List UInt8).length + y1.length ≤ 100000000) := by show _ ≤ _; rw [M1.out]; simp
          go_wp2_with (at_builtin; refine wpList_appS rfl _ _ rfl w7 w7.heap.size _ [] y1 A7 c7 rfl rfl (Below.refl _ _) (OB.nil _ _) HR7.out HSZ1.out (Nat.le_refl _) ?_; intro v8 w8 hv8 hb8; obtain ⟨A8, c8, rfl⟩ := hv8.value)
          have c8' : Below wo.heap.size wo w8 := after c7' hb8
          rw [List.nil_append] at hv8
          go_wp2_with fail
          refine (X2.out _ _ c8' (HV6.out.on hb8)).mono ?_
          rintro e w9 ⟨v9, rfl, hv9, hb9⟩
          have c9' := after c8' hb9
          obtain ⟨A9, c9, rfl⟩ := hv9.value
          have HR9 := Lib.hid hv9.rd
          have hv89 := hv8.later hb9
          have hsz7 : w7.heap.size ≤ w9.heap.size := Nat.le_trans hb8.size hb9.size
          have HSZ2 : Hid (y1.length + y2.length ≤ 100000000) := by show _ ≤ _; rw [M1.out, M2.out]; simp
          go_wp2_with (at_builtin; refine wpList_appS rfl _ _ rfl w9 w7.heap.size _ y1 y2 A9 c9 rfl rfl (Below.refl _ _) hv89 HR9.out HSZ2.out hsz7 ?_; intro va wa hva hba; obtain ⟨Aa, ca, rfl⟩ := hva.value)
          go_roundw
          case rel =>
            have hcc : Below wo.heap.size wo wa := c9'.trans (hba.mono c7'.size)
            exact ⟨j + 1, by omega, by have := HM.out; go_num, by (rw [HS2.out]; have hsl := hva.sl; rw [List.length_append] at hsl; exact hsl), hbel.trans (hcc.mono hbel.size)⟩
          case measure => have := HM.out; simp [intOf]; omega
    · have hjn : j = n + 1 := by omega
      subst hjn
      have HH := Lib.hid hh
      have ix : ¬ ((8 * (n + 1) : Nat) : Int) < ((8 * n + 8 : Nat) : Int) := by omega
      clear hh
      go_wp2
      go_ret
      exact ⟨_, rfl, by rw [HR.out]; exact HH.out, after b4 hbel⟩

set_option maxRecDepth 100000 in
set_option maxHeartbeats 3200000 in
theorem law_mhashes (d : List UInt8) (v : Value) (w : World) (hd : SL w w.heap.size v d) :
    Calls Try.prog 11 #[v] w fun e w' => e = .returned (.bool true) ∧ Below w.heap.size w w' := by
  have HW := Lib.hid works_any
  have HF := Lib.hid (fun o ho => few1 d v w o ho hd)
  have hd9 : fewB [d] = true → d.length ≤ 5000 := fun h => by
    simp [fewB] at h
    omega
  have H1 := Lib.hid (fun W (h : Below w.heap.size w W) (hl : d.length ≤ 5000) => phash_any d v W (hd.on h) hl)
  have H2 := Lib.hid (fun W (h : Below w.heap.size w W) (hl : d.length ≤ 5000) => rhash_any d v W (hd.on h) hl)
  generalize hashL d = r at *
  obtain ⟨A1, c1, rfl, h11, h12, h13⟩ := hd
  clear h13
  generalize fewB [d] = q at *
  have H9 := Lib.hid hd9
  clear hd9
  go_enter Try.func11, Try.ntmps11
  go_wp2_with fail
  refine (HF.out _ rfl).mono ?_
  rintro e w1 ⟨rfl, hb1⟩
  cases q
  · go_wp2_with fail
    refine (HW.out _).mono ?_
    rintro e w2 ⟨rfl, hb2⟩
    go_wp2
    go_ret
    exact ⟨rfl, after hb1 hb2⟩
  · have K1 := Lib.hid (H1.out w1.drew hb1.drew (H9.out (by first | exact trivial | rfl)))
    have K2 := Lib.hid (fun W (hb : Below w1.drew.heap.size w1.drew W) => H2.out W (after hb1.drew hb) (H9.out (by first | exact trivial | rfl)))
    have hb1d := hb1.drew
    go_wp2_with fail
    go_region_with (first
      | (go_at_call 34; (with_reducible refine K1.out.mono ?_); rintro e w2 ⟨v2, rfl, hv2, hb2⟩; have C2 := hv2.convert)
      | (go_at_call 35; (with_reducible refine (K2.out _ hb2).mono ?_); rintro e w3 ⟨v3, rfl, hv3, hb3⟩; have C3 := hv3.convert; have C2b := (hv2.on hb3).convert; have b3 := after hb2 hb3)
      | (go_at_call 23; (with_reducible refine (HW.out _).mono ?_); rintro e w4 ⟨rfl, hb4⟩))
    all_goals (go_wp2; go_ret; exact ⟨rfl, after (after hb1d b3) hb4⟩)
end Go.Proofs.Ytndkkkkfgihemaa
