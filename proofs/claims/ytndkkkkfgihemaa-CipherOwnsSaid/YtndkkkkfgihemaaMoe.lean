/-
  Layer 20: the reference's EncryptCBC and DecryptCBC.
-/
import Derived.Test.YtndkkkkfgihemaaMod
namespace Go.Proofs.Ytndkkkkfgihemaa
set_option linter.unusedVariables false
set_option linter.unusedSimpArgs false
open Go.RowKit

set_option maxRecDepth 100000 in
set_option maxHeartbeats 3200000 in
theorem rcbe_ok (k iv d : List UInt8) (vk vi vd : Value) (w : World) (hk : SL w w.heap.size vk k) (hi : SL w w.heap.size vi iv) (hd : SL w w.heap.size vd d) (h1 : k.length = 16) (h2 : iv.length = 8) (h3 : d.length = 8 * (d.length / 8)) (hs : d.length ≤ 100000) :
    Calls Try.prog 25 #[vk, vi, vd] w fun e w' => ∃ v', e = .returned (.tuple #[v', .int .i64 0]) ∧ OB w' w.heap.size v' (cbE k iv d) ∧ Below w.heap.size w w' := by
  have HK := Lib.hid (fun W (h : Below w.heap.size w W) => hk.on h)
  have HI := Lib.hid hi
  obtain ⟨A1, c1, rfl, h11, h12, h13⟩ := hk
  obtain ⟨A2, c2, rfl, h21, h22, h23⟩ := hi
  obtain ⟨A3, c3, rfl, h31, h32, h33⟩ := hd
  rw [h1, h2]
  rw [h2] at HI
  rw [h1] at HK
  obtain ⟨n, hn⟩ : ∃ n, n = d.length / 8 := ⟨_, rfl⟩
  rw [← hn] at h3
  have e8 : ((d.length : Int) % 8 != 0) = false := by simp; omega
  have HB := Lib.hid (fun i (hi : i < n) => blk_len d i (by omega))
  have hblk : Hid (∀ i W, i < n → Below w.heap.size w W → ∃ b3 o3, A3 = some ⟨b3, o3, none⟩ ∧ SL W w.heap.size (.slice (some ⟨b3, o3 + 8 * i, none⟩) 8 (c3 - 8 * i)) (blk d i)) := fun i W hi hb => by
    obtain ⟨b3, o3, rfl, hb3, hc3⟩ := h33 (by omega)
    refine ⟨b3, o3, rfl, ?_⟩
    exact SL.below (w := w) ⟨some ⟨b3, o3 + 8 * i, none⟩, c3 - 8 * i, by rw [blk_len d i (by omega)], by rw [blk_len d i (by omega)]; omega, by omega, Rd.take (Rd.drop h33 (8 * i) (by omega)) 8⟩ hb
  obtain ⟨r, hr⟩ : ∃ r, r = cbE k iv d := ⟨_, rfl⟩
  have HR : Hid (r = (encS k iv d n).1) := by show _ = _; rw [hr, cbE, hn]
  rw [← hr]
  obtain ⟨L, hL⟩ : ∃ L, L = d.length := ⟨_, rfl⟩
  rw [← hL] at h3 h31 e8 ⊢
  have HL := Lib.hid h3
  have hLs : L ≤ 100000 := by omega
  have HLL := Lib.hid (fun i => encS_link k iv d i h2)
  have HLE := Lib.hid (fun i => encS_len k iv d i)
  have K1 := Lib.hid h1
  have K2 := Lib.hid h2
  clear h3 hL hn h1 h2 h23 h33 h13 hr
  unfold maxLen at h32
  go_enter Try.func25, Try.ntmps25
  go_wp2_with fail
  go_loopw [1, 8, 9] (fun l o at_ wr => ∃ i : Nat, i ≤ n ∧ at_ = .int .i64 ((8 * i : Nat) : Int) ∧ FLo wr o l (encS k iv d i).2 ∧ OB wr w.heap.size o (encS k iv d i).1 ∧ Below w.heap.size w wr) (fun _ _ at_ _ => L - (intOf at_).toNat)
  case atStart => exact ⟨0, by omega, rfl, HI.out.flo, OB.nil _ _, Below.refl _ _⟩
  case round =>
    obtain ⟨i, hi, rfl, hlk, hout, hbel⟩ := hrel
    obtain ⟨Ao, co, rfl⟩ := hout.value
    by_cases hlt : i < n
    · obtain ⟨b3, o3, rfl, hx⟩ := hblk.out i wr hlt hbel
      have hl2 := HLL.out i
      have hl1 := HLE.out i
      have HX := Lib.hid (fun W (hb : Below wr.heap.size wr W) => rxor_any (blk d i) (encS k iv d i).2 _ _ W ((hx.more hbel.size).on hb) (hlk.sl.on hb) (HB.out i hlt) hl2)
      have HE := Lib.hid (fun W v1 (hb : Below w.heap.size w W) (g : SL W W.heap.size v1 (xorL (blk d i) (encS k iv d i).2)) => renc_any k (xorL (blk d i) (encS k iv d i).2) _ v1 W (HK.out W hb) g)
      have hf : fitE k (xorL (blk d i) (encS k iv d i).2) = 0 := fit_ok K1.out (xor_len8 (HB.out i hlt) hl2)
      rw [encM, if_pos hf, hf] at HE
      have HS2 : Hid (encS k iv d (i + 1) = ((encS k iv d i).1 ++ encB k (xorL (blk d i) (encS k iv d i).2), encB k (xorL (blk d i) (encS k iv d i).2))) := rfl
      have HEL := Lib.hid (encB_length k (xorL (blk d i) (encS k iv d i).2))
      generalize encB k (xorL (blk d i) (encS k iv d i).2) = y at *
      generalize xorL (blk d i) (encS k iv d i).2 = x at *
      generalize (encS k iv d i).2 = lk at *
      generalize (encS k iv d i).1 = al at *
      obtain ⟨A5, c5, e5, h51, h52, h53⟩ := id hlk
      subst e5
      have HLK := Lib.hid hlk
      rw [hl2] at HX h51 HLK ⊢
      have HL1 := Lib.hid hl1
      have HO := Lib.hid hout
      have hLL := HL.out
      have ix : ((8 * i : Nat) : Int) + 8 ≤ (c3 : Int) := by omega
      have ix2 : ((8 * i : Nat) : Int) < (L : Int) := by omega
      have ix3 : ((8 * i : Nat) : Int) ≤ (L : Int) := by omega
      have ix5 : ((8 * i : Nat) : Int) ≤ ((8 * i : Nat) : Int) + 8 := by omega
      have HAL : Hid (al.length ≤ 1000000) := by show _ ≤ _; omega
      clear hLL hl1 hl2 h53 hlk hout hx hf
      obtain ⟨m, hm⟩ : ∃ m, m = 8 * i := ⟨_, rfl⟩
      rw [← hm] at HX ix ix2 ix3 ix5 ⊢
      have HM := Lib.hid hm
      clear hm
      go_wp2_with fail
      refine (HX.out _ (Below.refl _ _)).mono ?_
      rintro e w3 ⟨v3, rfl, hv3, hb3⟩
      have b3' := hbel.trans (hb3.mono hbel.size)
      go_wp2_with fail
      refine (HE.out _ _ b3' hv3.sl).mono ?_
      rintro e w4 ⟨v4, rfl, hv4, hb4⟩
      have b34 := hb3.trans (hb4.mono hb3.size)
      have hfl := hv4.flo HO.out hb3.size
      have ho4 := HO.out.later b34
      have b4 := hbel.trans (b34.mono hbel.size)
      obtain ⟨A6, c6, rfl⟩ := hv4.value
      have HR6 := Lib.hid hv4.rd
      have HFL := Lib.hid hfl
      have HP0 : Hid (0 < y.length) := by show _ < _; rw [HEL.out]; omega
      have HSZ : Hid (al.length + y.length ≤ 100000000) := by show _ ≤ _; rw [HEL.out]; have := HAL.out; omega
      rw [HEL.out] at HFL ⊢
      clear hfl
      go_wp2_with (refine wpList_appF rfl (.tmp 42) (.tmp 43) rfl w.heap.size _ al y A6 c6 8 HEL.out rfl rfl ho4 HP0.out HR6.out HSZ.out b4.size ?_; intro g5 cap5 w5 hv5 hg5)
      go_roundw
      case rel =>
        refine ⟨i + 1, by omega, by have := HM.out; go_num, ?_, ?_, ho4.grown b4 b4.size hg5.out.1⟩
        · rw [HS2.out]; exact FLo.app HFL.out hg5.out.1 hg5.out.2
        · rw [HS2.out]; exact hv5
      case measure => have := HM.out; simp [intOf]; omega
    · have hin : i = n := by omega
      subst hin
      have ix : ¬ ((8 * i : Nat) : Int) < (L : Int) := by have := HL.out; omega
      have HA := Lib.hid hout
      clear hout hlk
      go_wp2
      go_ret2
      exact ⟨_, rfl, by rw [HR.out]; exact HA.out, hbel⟩
set_option maxRecDepth 100000 in
set_option maxHeartbeats 3200000 in
theorem rcbd_ok (k iv d : List UInt8) (vk vi vd : Value) (w : World) (hk : SL w w.heap.size vk k) (hi : SL w w.heap.size vi iv) (hd : SL w w.heap.size vd d) (h1 : k.length = 16) (h2 : iv.length = 8) (h3 : d.length = 8 * (d.length / 8)) (hs : d.length ≤ 100000) :
    Calls Try.prog 27 #[vk, vi, vd] w fun e w' => ∃ v', e = .returned (.tuple #[v', .int .i64 0]) ∧ OB w' w.heap.size v' (cbD k iv d) ∧ Below w.heap.size w w' := by
  have HK := Lib.hid (fun W (h : Below w.heap.size w W) => hk.on h)
  have HI := Lib.hid hi
  obtain ⟨A1, c1, rfl, h11, h12, h13⟩ := hk
  obtain ⟨A2, c2, rfl, h21, h22, h23⟩ := hi
  obtain ⟨A3, c3, rfl, h31, h32, h33⟩ := hd
  rw [h1, h2]
  rw [h2] at HI
  rw [h1] at HK
  obtain ⟨n, hn⟩ : ∃ n, n = d.length / 8 := ⟨_, rfl⟩
  rw [← hn] at h3
  have e8 : ((d.length : Int) % 8 != 0) = false := by simp; omega
  have HB := Lib.hid (fun i (hi : i < n) => blk_len d i (by omega))
  have hblk : Hid (∀ i W, i < n → Below w.heap.size w W → ∃ b3 o3, A3 = some ⟨b3, o3, none⟩ ∧ SL W w.heap.size (.slice (some ⟨b3, o3 + 8 * i, none⟩) 8 (c3 - 8 * i)) (blk d i)) := fun i W hi hb => by
    obtain ⟨b3, o3, rfl, hb3, hc3⟩ := h33 (by omega)
    refine ⟨b3, o3, rfl, ?_⟩
    exact SL.below (w := w) ⟨some ⟨b3, o3 + 8 * i, none⟩, c3 - 8 * i, by rw [blk_len d i (by omega)], by rw [blk_len d i (by omega)]; omega, by omega, Rd.take (Rd.drop h33 (8 * i) (by omega)) 8⟩ hb
  obtain ⟨r, hr⟩ : ∃ r, r = cbD k iv d := ⟨_, rfl⟩
  have HR : Hid (r = (decS k iv d n).1) := by show _ = _; rw [hr, cbD, hn]
  rw [← hr]
  obtain ⟨L, hL⟩ : ∃ L, L = d.length := ⟨_, rfl⟩
  rw [← hL] at h3 h31 e8 ⊢
  have HL := Lib.hid h3
  have hLs : L ≤ 100000 := by omega
  have HLL := Lib.hid (fun i (hi : i ≤ n) => decS_link k iv d i h2 (by omega))
  have HLE := Lib.hid (fun i (hi : i ≤ n) => decS_len k iv d i h2 (by omega))
  have K1 := Lib.hid h1
  have K2 := Lib.hid h2
  clear h3 hL hn h1 h2 h23 h33 h13 hr
  unfold maxLen at h32
  go_enter Try.func27, Try.ntmps27
  go_wp2_with fail
  go_loopw [1, 8, 9] (fun l o at_ wr => ∃ i : Nat, i ≤ n ∧ at_ = .int .i64 ((8 * i : Nat) : Int) ∧ SL wr w.heap.size l (decS k iv d i).2 ∧ OB wr w.heap.size o (decS k iv d i).1 ∧ Below w.heap.size w wr) (fun _ _ at_ _ => L - (intOf at_).toNat)
  case atStart => exact ⟨0, by omega, rfl, HI.out, OB.nil _ _, Below.refl _ _⟩
  case round =>
    obtain ⟨i, hi, rfl, hlk, hout, hbel⟩ := hrel
    obtain ⟨Ao, co, rfl⟩ := hout.value
    by_cases hlt : i < n
    · obtain ⟨b3, o3, rfl, hx⟩ := hblk.out i wr hlt hbel
      have hl2 := HLL.out i hi
      have hl1 := HLE.out i hi
      have HE := Lib.hid (rdec_any k (blk d i) _ _ wr (HK.out wr hbel) (hx.more hbel.size))
      have HX := Lib.hid (fun W v1 (hb : Below wr.heap.size wr W) (g : SL W W.heap.size v1 (decB k (blk d i))) => rxor_any (decB k (blk d i)) (decS k iv d i).2 v1 _ W g ((hlk.more hbel.size).on hb) (decB_length _ _) hl2)
      have hf : fitE k (blk d i) = 0 := fit_ok K1.out (HB.out i hlt)
      rw [decM, if_pos hf, hf] at HE
      have HS2 : Hid (decS k iv d (i + 1) = ((decS k iv d i).1 ++ xorL (decB k (blk d i)) (decS k iv d i).2, blk d i)) := rfl
      have HEL := Lib.hid (xor_len8 (decB_length k (blk d i)) hl2)
      generalize xorL (decB k (blk d i)) (decS k iv d i).2 = y at *
      generalize decB k (blk d i) = x at *
      generalize (decS k iv d i).2 = lk at *
      generalize (decS k iv d i).1 = al at *
      obtain ⟨A5, c5, e5, h51, h52, h53⟩ := hlk
      subst e5
      rw [hl2] at HX h51 ⊢
      have HL1 := Lib.hid hl1
      have HO := Lib.hid hout
      have HBK := Lib.hid hx
      have hLL := HL.out
      have ix : ((8 * i : Nat) : Int) + 8 ≤ (c3 : Int) := by omega
      have ix2 : ((8 * i : Nat) : Int) < (L : Int) := by omega
      have ix3 : ((8 * i : Nat) : Int) ≤ (L : Int) := by omega
      have ix5 : ((8 * i : Nat) : Int) ≤ ((8 * i : Nat) : Int) + 8 := by omega
      have HAL : Hid (al.length ≤ 1000000) := by show _ ≤ _; omega
      clear hLL hl1 hl2 h53 hout hx hf
      obtain ⟨m, hm⟩ : ∃ m, m = 8 * i := ⟨_, rfl⟩
      rw [← hm] at HE HBK ix ix2 ix3 ix5 ⊢
      have HM := Lib.hid hm
      clear hm
      go_wp2_with fail
      refine HE.out.mono ?_
      rintro e w3 ⟨v3, rfl, hv3, hb3⟩
      go_wp2_with fail
      refine (HX.out _ _ hb3 hv3.sl).mono ?_
      rintro e w4 ⟨v4, rfl, hv4, hb4⟩
      have b34 := hb3.trans (hb4.mono hb3.size)
      have ho4 := HO.out.later b34
      have b4 := hbel.trans (b34.mono hbel.size)
      obtain ⟨A6, c6, rfl⟩ := hv4.value
      have HR6 := Lib.hid hv4.rd
      have HP0 : Hid (0 < y.length) := by show _ < _; rw [HEL.out]; omega
      have HSZ : Hid (al.length + y.length ≤ 100000000) := by show _ ≤ _; rw [HEL.out]; have := HAL.out; omega
      rw [HEL.out]
      go_wp2_with (refine wpList_appF rfl _ _ rfl w.heap.size _ al y A6 c6 8 HEL.out rfl rfl ho4 HP0.out HR6.out HSZ.out b4.size ?_; intro g5 cap5 w5 hv5 hg5)
      go_roundw
      case rel =>
        have b5 := ho4.grown (w0 := wr) (b34.mono hbel.size) b4.size hg5.out.1
        refine ⟨i + 1, by omega, by have := HM.out; go_num, ?_, ?_, hbel.trans b5⟩
        · rw [HS2.out]; exact HBK.out.below b5
        · rw [HS2.out]; exact hv5
      case measure => have := HM.out; simp [intOf]; omega
    · have hin : i = n := by omega
      subst hin
      have ix : ¬ ((8 * i : Nat) : Int) < (L : Int) := by have := HL.out; omega
      have HA := Lib.hid hout
      clear hout hlk
      go_wp2
      go_ret2
      exact ⟨_, rfl, by rw [HR.out]; exact HA.out, hbel⟩
set_option maxRecDepth 100000 in
set_option maxHeartbeats 3200000 in
theorem rcbe_err (k iv d : List UInt8) (vk vi vd : Value) (w : World) (hk : SL w w.heap.size vk k) (hi : SL w w.heap.size vi iv) (hd : SL w w.heap.size vd d) (h : fitC k iv d ≠ 0) :
    Calls Try.prog 25 #[vk, vi, vd] w fun e w' => e = .returned (.tuple #[.slice none 0 0, .int .i64 1]) ∧ w' = w := by
  obtain ⟨A1, c1, rfl, h11, h12, h13⟩ := hk
  obtain ⟨A2, c2, rfl, h21, h22, h23⟩ := hi
  obtain ⟨A3, c3, rfl, h31, h32, h33⟩ := hd
  clear h13 h23 h33
  have hc : k.length ≠ 16 ∨ iv.length ≠ 8 ∨ d.length % 8 ≠ 0 := by
    unfold fitC at h
    split at h
    · assumption
    · exact absurd rfl h
  clear h
  by_cases e1 : k.length = 16
  · have n1 : ((k.length : Int) != 16) = false := by simp [e1]
    by_cases e2 : iv.length = 8
    · have n2 : ((iv.length : Int) != 8) = false := by simp [e2]
      have n3 : ((d.length : Int) % 8 != 0) = true := by
        have : d.length % 8 ≠ 0 := by rcases hc with h | h | h <;> first | exact absurd e1 h | exact absurd e2 h | exact h
        simp; omega
      clear hc e1 e2
      go_enter Try.func25, Try.ntmps25
      go_wp2
      go_ret2
      exact ⟨rfl, rfl⟩
    · have n2 : ((iv.length : Int) != 8) = true := by simp; omega
      clear hc e1 e2
      go_enter Try.func25, Try.ntmps25
      go_wp2
      go_ret2
      exact ⟨rfl, rfl⟩
  · have n1 : ((k.length : Int) != 16) = true := by simp; omega
    clear hc e1
    go_enter Try.func25, Try.ntmps25
    go_wp2
    go_ret2
    exact ⟨rfl, rfl⟩
theorem rcbe_any (k iv d : List UInt8) (vk vi vd : Value) (w : World) (hk : SL w w.heap.size vk k) (hi : SL w w.heap.size vi iv) (hd : SL w w.heap.size vd d) (hs : d.length ≤ 100000) :
    Calls Try.prog 25 #[vk, vi, vd] w (CiP (if fitC k iv d = 0 then cbE k iv d else []) (fitC k iv d) w) := by
  by_cases h : fitC k iv d = 0
  · obtain ⟨h1, h2, h3⟩ := fitC_zero h
    rw [if_pos h, h]
    exact rcbe_ok k iv d vk vi vd w hk hi hd h1 h2 h3 hs
  · rw [if_neg h, fitC_one h]
    exact (rcbe_err k iv d vk vi vd w hk hi hd h).mono fun e w' ⟨he, hw⟩ => ⟨_, he, OB.nil _ _, by rw [hw]; exact Below.refl _ _⟩
set_option maxRecDepth 100000 in
set_option maxHeartbeats 3200000 in
theorem rcbd_err (k iv d : List UInt8) (vk vi vd : Value) (w : World) (hk : SL w w.heap.size vk k) (hi : SL w w.heap.size vi iv) (hd : SL w w.heap.size vd d) (h : fitC k iv d ≠ 0) :
    Calls Try.prog 27 #[vk, vi, vd] w fun e w' => e = .returned (.tuple #[.slice none 0 0, .int .i64 1]) ∧ w' = w := by
  obtain ⟨A1, c1, rfl, h11, h12, h13⟩ := hk
  obtain ⟨A2, c2, rfl, h21, h22, h23⟩ := hi
  obtain ⟨A3, c3, rfl, h31, h32, h33⟩ := hd
  clear h13 h23 h33
  have hc : k.length ≠ 16 ∨ iv.length ≠ 8 ∨ d.length % 8 ≠ 0 := by
    unfold fitC at h
    split at h
    · assumption
    · exact absurd rfl h
  clear h
  by_cases e1 : k.length = 16
  · have n1 : ((k.length : Int) != 16) = false := by simp [e1]
    by_cases e2 : iv.length = 8
    · have n2 : ((iv.length : Int) != 8) = false := by simp [e2]
      have n3 : ((d.length : Int) % 8 != 0) = true := by
        have : d.length % 8 ≠ 0 := by rcases hc with h | h | h <;> first | exact absurd e1 h | exact absurd e2 h | exact h
        simp; omega
      clear hc e1 e2
      go_enter Try.func27, Try.ntmps27
      go_wp2
      go_ret2
      exact ⟨rfl, rfl⟩
    · have n2 : ((iv.length : Int) != 8) = true := by simp; omega
      clear hc e1 e2
      go_enter Try.func27, Try.ntmps27
      go_wp2
      go_ret2
      exact ⟨rfl, rfl⟩
  · have n1 : ((k.length : Int) != 16) = true := by simp; omega
    clear hc e1
    go_enter Try.func27, Try.ntmps27
    go_wp2
    go_ret2
    exact ⟨rfl, rfl⟩
theorem rcbd_any (k iv d : List UInt8) (vk vi vd : Value) (w : World) (hk : SL w w.heap.size vk k) (hi : SL w w.heap.size vi iv) (hd : SL w w.heap.size vd d) (hs : d.length ≤ 100000) :
    Calls Try.prog 27 #[vk, vi, vd] w (CiP (if fitC k iv d = 0 then cbD k iv d else []) (fitC k iv d) w) := by
  by_cases h : fitC k iv d = 0
  · obtain ⟨h1, h2, h3⟩ := fitC_zero h
    rw [if_pos h, h]
    exact rcbd_ok k iv d vk vi vd w hk hi hd h1 h2 h3 hs
  · rw [if_neg h, fitC_one h]
    exact (rcbd_err k iv d vk vi vd w hk hi hd h).mono fun e w' ⟨he, hw⟩ => ⟨_, he, OB.nil _ _, by rw [hw]; exact Below.refl _ _⟩
end Go.Proofs.Ytndkkkkfgihemaa
