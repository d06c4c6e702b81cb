
/-
  Layer 20: the loop of chain.
-/
import Derived.Test.YtdalcldilmmgmaaDoorMoa
namespace Go.Proofs.YtdalcldilmmgmaaDoor
set_option linter.unusedVariables false
set_option linter.unusedSimpArgs false
open Go.RowKit

/-- Blocks, chained by an operation that gives a block and the next link. -/
def chS (op : List UInt8 → List UInt8 → List UInt8 × List UInt8) (iv d : List UInt8) : Nat → List UInt8 × List UInt8
  | 0 => ([], iv)
  | i + 1 => ((chS op iv d i).1 ++ (op (blk d i) (chS op iv d i).2).1, (op (blk d i) (chS op iv d i).2).2)
theorem encS_ch (k iv d : List UInt8) (i : Nat) : encS k iv d i = chS (fun x l => (encB k (xorL x l), encB k (xorL x l))) iv d i := by
  induction i with
  | zero => rfl
  | succ i ih => rw [encS, chS, ih]
theorem decS_ch (k iv d : List UInt8) (i : Nat) : decS k iv d i = chS (fun x l => (xorL (decB k x) l, x)) iv d i := by
  induction i with
  | zero => rfl
  | succ i ih => rw [decS, chS, ih]
theorem chS_len (op : List UInt8 → List UInt8 → List UInt8 × List UInt8) (iv d : List UInt8) (n : Nat) (hv : iv.length = 8) (hn : 8 * n ≤ d.length) (hop : ∀ x l, x.length = 8 → l.length = 8 → (op x l).1.length = 8 ∧ (op x l).2.length = 8) :
    ∀ i, i ≤ n → (chS op iv d i).1.length = 8 * i ∧ (chS op iv d i).2.length = 8 := by
  intro i
  induction i with
  | zero => intro _; exact ⟨rfl, hv⟩
  | succ i ih =>
    intro hi
    obtain ⟨h1, h2⟩ := ih (by omega)
    obtain ⟨h3, h4⟩ := hop (blk d i) _ (blk_len d i (by omega)) h2
    exact ⟨by rw [chS, List.length_append, h1, h3]; omega, h4⟩
theorem fill_step (a r z : List UInt8) (L o : Nat) (ha : a.length = o) (hr : r.length = 8) (hz : o + 8 ≤ L) : (a ++ List.replicate (L - o) 0).take o ++ (r ++ (a ++ List.replicate (L - o) 0).drop (o + r.length)) = (a ++ r) ++ List.replicate (L - (o + 8)) 0 := by
  rw [List.take_append_of_le_length (by omega), List.take_of_length_le (by omega), hr, List.drop_append, List.drop_eq_nil_of_le (by omega), List.nil_append, ha, List.drop_replicate, List.append_assoc, show L - o - (o + 8 - o) = L - (o + 8) by omega]

/-- The contract of the operation that chain is given. -/
def OpC (f : FuncId) (b : Nat) (w0 : World) (op : List UInt8 → List UInt8 → List UInt8 × List UInt8) : Prop :=
  ∀ g W v u x l, Below w0.heap.size w0 W → g < W.heap.size → FL g W v x → SL W W.heap.size u l → x.length = 8 → l.length = 8 → Calls Tryd.prog f #[v, u, .pointer (some ⟨b, 0, none⟩)] W (OpP g (op x l).1 (op x l).2 W)
set_option maxRecDepth 100000 in
set_option maxHeartbeats 3200000 in
theorem pchain44_ok (op : List UInt8 → List UInt8 → List UInt8 × List UInt8) (k iv d : List UInt8) (vk vi vd : Value) (b : Nat) (w : World) (hk : SL w w.heap.size vk k) (hi : SL w w.heap.size vi iv) (hd : SL w w.heap.size vd d) (h1 : k.length = 16) (h2 : iv.length = 8) (h3 : d.length = 8 * (d.length / 8)) (hs : d.length ≤ 100000)
    (hop : ∀ x l, x.length = 8 → l.length = 8 → (op x l).1.length = 8 ∧ (op x l).2.length = 8) (hf : OpC 68 b w op) :
    Calls Tryd.prog 67 #[vk, vi, vd, .func (.func 68) #[] #[.pointer (some ⟨b, 0, none⟩)]] w fun e w' => ∃ v', e = .returned (.tuple #[v', .int .i64 0]) ∧ OB w' w.heap.size v' (chS op iv d (d.length / 8)).1 ∧ Below w.heap.size w w' := by
  have HI := Lib.hid hi
  have HD := Lib.hid hd
  obtain ⟨A1, c1, rfl, h11, h12, h13⟩ := hk
  obtain ⟨A2, c2, rfl, h21, h22, h23⟩ := hi
  obtain ⟨A3, c3, rfl, h31, h32, h33⟩ := hd
  rw [h1, h2]
  rw [h2] at HI
  obtain ⟨n, hn⟩ : ∃ n, n = d.length / 8 := ⟨_, rfl⟩
  have HCL := Lib.hid (chS_len op iv d n h2 (by omega) hop)
  rw [← hn] at h3 ⊢
  have e8 : ((d.length : Int) % 8 != 0) = false := by simp; omega
  have HB := Lib.hid (fun i (hi : i < n) => blk_len d i (by omega))
  have HOP := Lib.hid hop
  have HF := Lib.hid hf
  have hblk : Hid (∀ i W, i < n → Below w.heap.size w W → w.heap.size ≤ W.heap.size → ∃ b3 o3, A3 = some ⟨b3, o3, none⟩ ∧ FL w.heap.size W (.slice (some ⟨b3, o3 + 8 * i, none⟩) 8 (c3 - 8 * i)) (blk d i)) := fun i W hi hb hsz => by
    obtain ⟨b3, o3, rfl, hb3, hc3⟩ := h33 (by omega)
    refine ⟨b3, o3, rfl, ?_⟩
    have hs : SL W w.heap.size (.slice (some ⟨b3, o3 + 8 * i, none⟩) 8 (c3 - 8 * i)) (blk d i) := SL.below (w := w) ⟨some ⟨b3, o3 + 8 * i, none⟩, c3 - 8 * i, by rw [blk_len d i (by omega)], by rw [blk_len d i (by omega)]; omega, by omega, Rd.take (Rd.drop h33 (8 * i) (by omega)) 8⟩ hb
    exact hs.fl hsz
  obtain ⟨L, hL⟩ : ∃ L, L = d.length := ⟨_, rfl⟩
  rw [← hL] at h3 h31 e8 ⊢
  have hLn : L = 8 * n := h3
  have hLs : L ≤ 100000 := by omega
  have HL := Lib.hid hLn
  clear h3 hL hn h1 h2 h23 h33 h13 hop hf hLn
  unfold maxLen at h32
  go_enter Tryd.func67, Tryd.ntmps67
  go_wp2_with (at_make; refine wpList_mk (by rfl) _ _ (by rfl) .i64 .i64 _ _ L (by rfl) (by rfl) (by rfl) (by rfl) (by omega) ?_; intro w1 hown1 hb1)
  go_loopw [11, 12] (fun l at_ wr => ∃ i : Nat, i ≤ n ∧ at_ = .int .i64 ((8 * i : Nat) : Int) ∧ FL w.heap.size wr l (chS op iv d i).2 ∧ OB wr w.heap.size (.slice (some ⟨w.heap.size, 0, none⟩) L L) ((chS op iv d i).1 ++ List.replicate (L - 8 * i) 0) ∧ Below w.heap.size w wr) (fun _ at_ _ => L - (intOf at_).toNat)
  case atStart => exact ⟨0, by omega, rfl, (HI.out.below hb1).fl hb1.size, by simpa [chS] using hown1, hb1⟩
  case round =>
    obtain ⟨i, hi, rfl, hlk, hall, hbel⟩ := hrel
    by_cases hlt : i < n
    · have hL := HL.out
      obtain ⟨b3, o3, rfl, hx⟩ := hblk.out i wr hlt hbel hbel.size
      have hg : w.heap.size < wr.heap.size := by
        have := hall.cellAt 0 (by simp; omega)
        exact World.block_lt_of_cell? wr _ this
      obtain ⟨hl1, hl2⟩ := HCL.out i (by omega)
      have HCALL := Lib.hid (HF.out w.heap.size wr _ _ (blk d i) (chS op iv d i).2 hbel hg hx hlk.sl (HB.out i hlt) hl2)
      have HOL := Lib.hid (HOP.out (blk d i) (chS op iv d i).2 (HB.out i hlt) hl2)
      have HS2 : Hid (chS op iv d (i + 1) = ((chS op iv d i).1 ++ (op (blk d i) (chS op iv d i).2).1, (op (blk d i) (chS op iv d i).2).2)) := rfl
      generalize op (blk d i) (chS op iv d i).2 = q at *
      obtain ⟨q1, q2⟩ := q
      simp only at *
      generalize (chS op iv d i).2 = lk at *
      generalize (chS op iv d i).1 = al at *
      obtain ⟨A5, c5, rfl, h51, h52, h53⟩ := hlk
      rw [hl2] at HCALL h51 ⊢
      have HL1 := Lib.hid hl1
      have ix : ((8 * i : Nat) : Int) + 8 ≤ (c3 : Int) := by omega
      have ix2 : ((8 * i : Nat) : Int) < (L : Int) := by omega
      have ix3 : ((8 * i : Nat) : Int) ≤ (L : Int) := by omega
      have ix5 : ((8 * i : Nat) : Int) ≤ ((8 * i : Nat) : Int) + 8 := by omega
      have HLO := Lib.hid hL
      clear hL hl1 hl2 h53
      obtain ⟨m, hm⟩ : ∃ m, m = 8 * i := ⟨_, rfl⟩
      rw [← hm] at HCALL ix ix2 ix3 ix5 hall ⊢
      have HM := Lib.hid hm
      clear hm
      go_wp2_with fail
      refine HCALL.out.mono ?_
      rintro e w3 ⟨v3, u3, rfl, hv3, hu3, hb3⟩
      obtain ⟨A6, c6, rfl, h61, h62, h63⟩ := hv3
      have HQ := Lib.hid HOL.out.1
      have HR3 := Lib.hid (fun hp => by obtain ⟨b6, o6, hA, _, hc6⟩ := h63 hp; exact (⟨b6, o6, hA, hc6⟩ : ∃ b6 o6, A6 = some ⟨b6, o6, none⟩ ∧ ∀ k, k < q1.length → w3.cell? ⟨b6, o6 + k, none⟩ = some (.int .u8 ((q1.getD k 0).toNat : Int))))
      rw [HQ.out] at h61
      have hal3 := hall.later (hb3.mono (Nat.le_refl _))
      have hfit : m + q1.length ≤ (al ++ List.replicate (L - m) 0).length := by rw [HQ.out, List.length_append, List.length_replicate, HL1.out, ← HM.out]; have := HLO.out; have := HM.out; omega
      have HFIT := Lib.hid hfit
      have HP8 : Hid (q1.length ≤ L - m) := by show _ ≤ _; rw [HQ.out]; have := HLO.out; have := HM.out; omega
      have HP0 : Hid (0 < q1.length) := by show _ < _; rw [HQ.out]; omega
      rw [HQ.out]
      clear h63 hfit
      go_wp2_with (refine wpList_cpAt rfl (.tmp 52) (.tmp 53) rfl w.heap.size L m _ _ w.heap.size A6 c6 8 _ q1 HQ.out rfl rfl hal3 HFIT.out HP8.out (by unfold maxLen; omega) HP0.out HR3.out ?_; intro w4 hall4 hb4 hk4)
      have hu4 := hu3.keep hk4.out.1 (fun k hk _ => hk4.out.2 k hk)
      go_roundw
      case rel =>
        refine ⟨i + 1, by omega, by have := HM.out; go_num, ?_, ?_, (hbel.trans (hb3.mono hbel.size)).trans hb4⟩
        · rw [HS2.out]; exact hu4
        · rw [HS2.out]
          have e := fill_step al q1 [] L m (by rw [HL1.out, HM.out]) HQ.out (by have := HLO.out; have := HM.out; omega)
          rw [e, HM.out] at hall4
          exact hall4
      case measure => have := HM.out; simp [intOf]; omega
    · have hin : i = n := by omega
      subst hin
      have hL := HL.out
      obtain ⟨hl1, hl2⟩ := HCL.out i (Nat.le_refl _)
      have HA := Lib.hid hall
      have ix : ¬ ((8 * i : Nat) : Int) < (L : Int) := by omega
      have ez : L - 8 * i = 0 := by omega
      clear hall hL hl1 hl2
      go_wp2
      go_ret2
      have hz := HA.out
      rw [ez, List.replicate_zero, List.append_nil] at hz
      exact ⟨_, rfl, hz, hbel⟩
set_option maxRecDepth 100000 in
set_option maxHeartbeats 3200000 in
theorem pchain47_ok (op : List UInt8 → List UInt8 → List UInt8 × List UInt8) (k iv d : List UInt8) (vk vi vd : Value) (b : Nat) (w : World) (hk : SL w w.heap.size vk k) (hi : SL w w.heap.size vi iv) (hd : SL w w.heap.size vd d) (h1 : k.length = 16) (h2 : iv.length = 8) (h3 : d.length = 8 * (d.length / 8)) (hs : d.length ≤ 100000)
    (hop : ∀ x l, x.length = 8 → l.length = 8 → (op x l).1.length = 8 ∧ (op x l).2.length = 8) (hf : OpC 75 b w op) :
    Calls Tryd.prog 67 #[vk, vi, vd, .func (.func 75) #[] #[.pointer (some ⟨b, 0, none⟩)]] w fun e w' => ∃ v', e = .returned (.tuple #[v', .int .i64 0]) ∧ OB w' w.heap.size v' (chS op iv d (d.length / 8)).1 ∧ Below w.heap.size w w' := by
  have HI := Lib.hid hi
  have HD := Lib.hid hd
  obtain ⟨A1, c1, rfl, h11, h12, h13⟩ := hk
  obtain ⟨A2, c2, rfl, h21, h22, h23⟩ := hi
  obtain ⟨A3, c3, rfl, h31, h32, h33⟩ := hd
  rw [h1, h2]
  rw [h2] at HI
  obtain ⟨n, hn⟩ : ∃ n, n = d.length / 8 := ⟨_, rfl⟩
  have HCL := Lib.hid (chS_len op iv d n h2 (by omega) hop)
  rw [← hn] at h3 ⊢
  have e8 : ((d.length : Int) % 8 != 0) = false := by simp; omega
  have HB := Lib.hid (fun i (hi : i < n) => blk_len d i (by omega))
  have HOP := Lib.hid hop
  have HF := Lib.hid hf
  have hblk : Hid (∀ i W, i < n → Below w.heap.size w W → w.heap.size ≤ W.heap.size → ∃ b3 o3, A3 = some ⟨b3, o3, none⟩ ∧ FL w.heap.size W (.slice (some ⟨b3, o3 + 8 * i, none⟩) 8 (c3 - 8 * i)) (blk d i)) := fun i W hi hb hsz => by
    obtain ⟨b3, o3, rfl, hb3, hc3⟩ := h33 (by omega)
    refine ⟨b3, o3, rfl, ?_⟩
    have hs : SL W w.heap.size (.slice (some ⟨b3, o3 + 8 * i, none⟩) 8 (c3 - 8 * i)) (blk d i) := SL.below (w := w) ⟨some ⟨b3, o3 + 8 * i, none⟩, c3 - 8 * i, by rw [blk_len d i (by omega)], by rw [blk_len d i (by omega)]; omega, by omega, Rd.take (Rd.drop h33 (8 * i) (by omega)) 8⟩ hb
    exact hs.fl hsz
  obtain ⟨L, hL⟩ : ∃ L, L = d.length := ⟨_, rfl⟩
  rw [← hL] at h3 h31 e8 ⊢
  have hLn : L = 8 * n := h3
  have hLs : L ≤ 100000 := by omega
  have HL := Lib.hid hLn
  clear h3 hL hn h1 h2 h23 h33 h13 hop hf hLn
  unfold maxLen at h32
  go_enter Tryd.func67, Tryd.ntmps67
  go_wp2_with (at_make; refine wpList_mk (by rfl) _ _ (by rfl) .i64 .i64 _ _ L (by rfl) (by rfl) (by rfl) (by rfl) (by omega) ?_; intro w1 hown1 hb1)
  go_loopw [11, 12] (fun l at_ wr => ∃ i : Nat, i ≤ n ∧ at_ = .int .i64 ((8 * i : Nat) : Int) ∧ FL w.heap.size wr l (chS op iv d i).2 ∧ OB wr w.heap.size (.slice (some ⟨w.heap.size, 0, none⟩) L L) ((chS op iv d i).1 ++ List.replicate (L - 8 * i) 0) ∧ Below w.heap.size w wr) (fun _ at_ _ => L - (intOf at_).toNat)
  case atStart => exact ⟨0, by omega, rfl, (HI.out.below hb1).fl hb1.size, by simpa [chS] using hown1, hb1⟩
  case round =>
    obtain ⟨i, hi, rfl, hlk, hall, hbel⟩ := hrel
    by_cases hlt : i < n
    · have hL := HL.out
      obtain ⟨b3, o3, rfl, hx⟩ := hblk.out i wr hlt hbel hbel.size
      have hg : w.heap.size < wr.heap.size := by
        have := hall.cellAt 0 (by simp; omega)
        exact World.block_lt_of_cell? wr _ this
      obtain ⟨hl1, hl2⟩ := HCL.out i (by omega)
      have HCALL := Lib.hid (HF.out w.heap.size wr _ _ (blk d i) (chS op iv d i).2 hbel hg hx hlk.sl (HB.out i hlt) hl2)
      have HOL := Lib.hid (HOP.out (blk d i) (chS op iv d i).2 (HB.out i hlt) hl2)
      have HS2 : Hid (chS op iv d (i + 1) = ((chS op iv d i).1 ++ (op (blk d i) (chS op iv d i).2).1, (op (blk d i) (chS op iv d i).2).2)) := rfl
      generalize op (blk d i) (chS op iv d i).2 = q at *
      obtain ⟨q1, q2⟩ := q
      simp only at *
      generalize (chS op iv d i).2 = lk at *
      generalize (chS op iv d i).1 = al at *
      obtain ⟨A5, c5, rfl, h51, h52, h53⟩ := hlk
      rw [hl2] at HCALL h51 ⊢
      have HL1 := Lib.hid hl1
      have ix : ((8 * i : Nat) : Int) + 8 ≤ (c3 : Int) := by omega
      have ix2 : ((8 * i : Nat) : Int) < (L : Int) := by omega
      have ix3 : ((8 * i : Nat) : Int) ≤ (L : Int) := by omega
      have ix5 : ((8 * i : Nat) : Int) ≤ ((8 * i : Nat) : Int) + 8 := by omega
      have HLO := Lib.hid hL
      clear hL hl1 hl2 h53
      obtain ⟨m, hm⟩ : ∃ m, m = 8 * i := ⟨_, rfl⟩
      rw [← hm] at HCALL ix ix2 ix3 ix5 hall ⊢
      have HM := Lib.hid hm
      clear hm
      go_wp2_with fail
      refine HCALL.out.mono ?_
      rintro e w3 ⟨v3, u3, rfl, hv3, hu3, hb3⟩
      obtain ⟨A6, c6, rfl, h61, h62, h63⟩ := hv3
      have HQ := Lib.hid HOL.out.1
      have HR3 := Lib.hid (fun hp => by obtain ⟨b6, o6, hA, _, hc6⟩ := h63 hp; exact (⟨b6, o6, hA, hc6⟩ : ∃ b6 o6, A6 = some ⟨b6, o6, none⟩ ∧ ∀ k, k < q1.length → w3.cell? ⟨b6, o6 + k, none⟩ = some (.int .u8 ((q1.getD k 0).toNat : Int))))
      rw [HQ.out] at h61
      have hal3 := hall.later (hb3.mono (Nat.le_refl _))
      have hfit : m + q1.length ≤ (al ++ List.replicate (L - m) 0).length := by rw [HQ.out, List.length_append, List.length_replicate, HL1.out, ← HM.out]; have := HLO.out; have := HM.out; omega
      have HFIT := Lib.hid hfit
      have HP8 : Hid (q1.length ≤ L - m) := by show _ ≤ _; rw [HQ.out]; have := HLO.out; have := HM.out; omega
      have HP0 : Hid (0 < q1.length) := by show _ < _; rw [HQ.out]; omega
      rw [HQ.out]
      clear h63 hfit
      go_wp2_with (refine wpList_cpAt rfl (.tmp 52) (.tmp 53) rfl w.heap.size L m _ _ w.heap.size A6 c6 8 _ q1 HQ.out rfl rfl hal3 HFIT.out HP8.out (by unfold maxLen; omega) HP0.out HR3.out ?_; intro w4 hall4 hb4 hk4)
      have hu4 := hu3.keep hk4.out.1 (fun k hk _ => hk4.out.2 k hk)
      go_roundw
      case rel =>
        refine ⟨i + 1, by omega, by have := HM.out; go_num, ?_, ?_, (hbel.trans (hb3.mono hbel.size)).trans hb4⟩
        · rw [HS2.out]; exact hu4
        · rw [HS2.out]
          have e := fill_step al q1 [] L m (by rw [HL1.out, HM.out]) HQ.out (by have := HLO.out; have := HM.out; omega)
          rw [e, HM.out] at hall4
          exact hall4
      case measure => have := HM.out; simp [intOf]; omega
    · have hin : i = n := by omega
      subst hin
      have hL := HL.out
      obtain ⟨hl1, hl2⟩ := HCL.out i (Nat.le_refl _)
      have HA := Lib.hid hall
      have ix : ¬ ((8 * i : Nat) : Int) < (L : Int) := by omega
      have ez : L - 8 * i = 0 := by omega
      clear hall hL hl1 hl2
      go_wp2
      go_ret2
      have hz := HA.out
      rw [ez, List.replicate_zero, List.append_nil] at hz
      exact ⟨_, rfl, hz, hbel⟩
end Go.Proofs.YtdalcldilmmgmaaDoor
