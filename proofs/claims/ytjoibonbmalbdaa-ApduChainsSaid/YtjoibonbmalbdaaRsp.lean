/-
  The walks of EncodeResponse, of the program and of the reference, of the program's DecodeResponse and the reference's SameResponse.
-/
import Derived.Test.YtjoibonbmalbdaaSam
namespace Go.Proofs.Ytjoibonbmalbdaa
set_option linter.unusedVariables false
set_option linter.unusedSimpArgs false
open Go.RowKit

def respE (l : List UInt8) (sw : Int) : Int := if 65536 < l.length then 3 else if wordB sw = true then 0 else 2
def respV (l : List UInt8) (sw : Int) : List UInt8 := if respE l sw = 0 then l ++ putL sw.toNat 2 else []
def RspR (l : List UInt8) (sw : Int) (w : World) (e : Ending) (w' : World) : Prop :=
  ∃ v', e = .returned (.tuple #[v', .int .i64 (respE l sw)]) ∧ SL w' w'.heap.size v' (respV l sw) ∧ Below w.heap.size w w'
theorem wordB_range {n : Int} (h : wordB n = true) : 24832 ≤ n ∧ n ≤ 40959 := by
  simp [wordB] at h
  omega

theorem join_two (u1 u2 : Value) (l1 l2 : List UInt8) (W : World) (h1 : SL W W.heap.size u1 l1) (h2 : SL W W.heap.size u2 l2) (hs : l1.length + l2.length ≤ 1000000) :
    Calls Try.prog 41 #[.slice (some ⟨W.heap.size, 0, none⟩) 2 2] (W.alloc (.cells #[u1, u2] 22)) fun e w' => ∃ v', e = .returned v' ∧ SL w' w'.heap.size v' (l1 ++ l2) ∧ Below W.heap.size W w' := by
  have hll : LL (W.alloc (.cells #[u1, u2] 22)) (W.alloc (.cells #[u1, u2] 22)).heap.size (.slice (some ⟨W.heap.size, 0, none⟩) 2 2) [l1, l2] := LL.lit W [u1, u2] [l1, l2] rfl (by simp) fun k hk => by
    match k, hk with
    | 0, _ => exact h1
    | 1, _ => exact h2
    | k + 2, hk => simp at hk; omega
  refine (pjoin_any [l1, l2] _ _ hll (by simp) (by simp [Lib.lens]; omega)).mono ?_
  rintro e w' ⟨v', he, hv, hb⟩
  exact ⟨v', he, by simpa using hv, (alloc_below _ _).trans (hb.mono (by rw [alloc_size]; omega))⟩

set_option maxRecDepth 100000 in
set_option maxHeartbeats 800000 in
/-- The contract of the reference's number. -/
theorem rnum_any (N k : Nat) (w : World) (h : 1 ≤ k) (h' : k ≤ 8) (hN : N ≤ 70000) :
    Calls Try.prog 42 #[.int .i64 N, .int .i64 k] w fun e w' => ∃ v', e = .returned v' ∧ SL w' w'.heap.size v' (putL N k) ∧ Below w.heap.size w w' := by
  go_enter Try.func42, Try.ntmps42
  go_wp2_with (at_make; refine wpList_mk (by rfl) _ _ (by rfl) .i64 .i64 _ _ k (by rfl) (by rfl) (by rfl) (by rfl) (by omega) ?_; intro w1 hown1 hb1')
  go_loopw [0, 6] (fun n i wr => ∃ j : Nat, j ≤ k ∧ i = .int .i64 ((k : Int) - 1 - (j : Int)) ∧ n = .int .i64 ((N / 256 ^ j : Nat) : Int) ∧ OB wr w.heap.size (.slice (some ⟨w.heap.size, 0, none⟩) k k) (List.replicate (k - j) 0 ++ putL N j) ∧ Below w.heap.size w wr) (fun _ i _ => (intOf i + 1).toNat)
  case atStart => exact ⟨0, Nat.zero_le _, by simp, by simp, by simpa [putL] using hown1, hb1'⟩
  case round =>
    obtain ⟨j, hj, rfl, rfl, hown, hbel⟩ := hrel
    have hle : N / 256 ^ j ≤ N := Nat.div_le_self _ _
    have hlb := low_byte N j
    have hst : N / 256 ^ (j + 1) = N / 256 ^ j / 256 := by rw [Nat.pow_succ, Nat.div_div_eq_div_mul]
    obtain ⟨m, hm⟩ : ∃ m, m = N / 256 ^ j := ⟨_, rfl⟩
    have HM := Lib.hid hm
    have HLB := Lib.hid hlb
    have HST := Lib.hid hst
    rw [← hm] at hle ⊢
    clear hm hlb hst
    by_cases h1 : j < k
    · have g3 := hown.cellAt (k - 1 - j) (by simp [putL_length]; omega)
      have g4 := hown.frozenAt (k - 1 - j)
      go_wp2
      go_roundw
      case rel =>
        refine ⟨j + 1, by omega, by go_num, ?_, put_round N _ (by rw [← HLB.out, ← HM.out]) hown h1, hbel.setCell (p := ⟨w.heap.size, k - 1 - j, none⟩) (Nat.le_refl _) _⟩
        rw [HST.out, ← HM.out, Int.natCast_ediv]
        rfl
      case measure => simp [intOf]; omega
    · have hjk : j = k := by omega
      subst hjk
      go_wp2
      go_ret
      exact ⟨_, rfl, by simpa using hown.sl, hbel⟩

set_option maxRecDepth 100000 in
set_option maxHeartbeats 800000 in
theorem penr_any (l : List UInt8) (sw : Int) (d : Value) (w : World) (h : SL w w.heap.size d l) (hl : l.length ≤ 70000) :
    Calls Try.prog 26 #[.agg #[d, .int .i64 sw]] w (RspR l sw w) := by
  have HS := Lib.hid h
  obtain ⟨A, c, rfl, _, _, _⟩ := h
  by_cases hb : 65536 < l.length
  · have HE : Hid (respE l sw = 3) := by show _ = _; rw [respE, if_pos hb]
    have HV : Hid (respV l sw = []) := by show _ = _; rw [respV, HE.out, if_neg (by decide)]
    go_enter Try.func26, Try.ntmps26
    go_wp2_with fail
    go_ret2
    exact ⟨_, by rw [HE.out]; rfl, by rw [HV.out]; exact SL.nil _ _ _ _ (Nat.zero_le _), alloc_below _ _⟩
  have HW := Lib.hid (fun W : World => pword_any sw W)
  cases hw : wordB sw
  · have HE : Hid (respE l sw = 2) := by show _ = _; rw [respE, if_neg hb, if_neg (by rw [hw]; decide)]
    have HV : Hid (respV l sw = []) := by show _ = _; rw [respV, HE.out, if_neg (by decide)]
    rw [hw] at HW
    clear hw
    go_enter Try.func26, Try.ntmps26
    go_wp2_with fail
    refine (HW.out _).mono ?_
    rintro e w1 ⟨rfl, rfl⟩
    go_wp2_with fail
    go_ret2
    exact ⟨_, by rw [HE.out]; rfl, by rw [HV.out]; exact SL.nil _ _ _ _ (Nat.zero_le _), alloc_below _ _⟩
  · have HE : Hid (respE l sw = 0) := by show _ = _; rw [respE, if_neg hb, if_pos hw]
    obtain ⟨r0, r1⟩ := wordB_range hw
    obtain ⟨N, rfl⟩ := Int.eq_ofNat_of_zero_le (show 0 ≤ sw by omega)
    have HV : Hid (respV l (N : Int) = l ++ putL N 2) := by show _ = _; rw [respV, HE.out, if_pos rfl]; rfl
    have HP := Lib.hid (fun W : World => pput_ok N 2 W (by omega) (by omega) (by omega) (by omega))
    rw [hw] at HW
    clear hw
    go_enter Try.func26, Try.ntmps26
    go_wp2_with fail
    refine (HW.out _).mono ?_
    rintro e w1 ⟨rfl, rfl⟩
    go_wp2_with fail
    refine (HP.out _).mono ?_
    rintro e w2 ⟨v2, rfl, hv2, hb2⟩
    rw [alloc_size] at hb2
    have c0 := box_cell hb2 0 _ rfl
    have hw2 : Below w.heap.size w w2 := (alloc_below _ _).trans (hb2.mono (by omega))
    have HV2 := Lib.hid hv2
    have HW2 := Lib.hid hw2
    obtain ⟨A2, c2, rfl, _, _, _⟩ := hv2
    have HJ := Lib.hid (join_two _ _ _ _ w2 (HS.out.on hw2) HV2.out (by rw [putL_length]; omega))
    clear hb2 hw2
    go_wp2_with fail
    refine HJ.out.mono ?_
    rintro e w3 ⟨v3, rfl, hv3, hb3⟩
    go_wp2_with fail
    go_ret2
    exact ⟨_, by rw [HE.out]; rfl, by rw [HV.out]; exact hv3, HW2.out.trans (hb3.mono HW2.out.size)⟩

theorem step_appS {ops : Array Oper} {o : Oper} {a : Act} {W : World} {K : Act → World → Prop} {Q : Exit → Act → World → Prop} {E : Prop} (hgd : o.guard = none) (s x : Operand)
    (ho : o.op = .call { callee := .builtin .append, args := #[s, x], argTypes := #[22, 22] }) (w : World) (base : Nat) (v : Value) (l m : List UInt8) (A : Option Addr) (c : Nat)
    (hs : a.eval s = v) (hx : a.eval x = .slice A m.length c) (hW : Below w.heap.size w W) (hown : OB w base v l)
    (hm : 0 < m.length → ∃ b o, A = some ⟨b, o, none⟩ ∧ ∀ k, k < m.length → W.cell? ⟨b, o + k, none⟩ = some (.int .u8 ((m.getD k 0).toNat : Int)))
    (hlen : l.length + m.length ≤ 100000000) (hbase : base ≤ w.heap.size)
    (h : ∀ v' w', OB w' base v' (l ++ m) → Below base w w' → K (a.put o.dst v') w') :
    if Region.wanted o (yielded ops a.tmps) = true then Oper.wp Try.prog o a W K Q else E := by
  have hw : Region.wanted o (yielded ops a.tmps) = true := by simp [Region.wanted, hgd]
  rw [if_pos hw]
  exact wp_appS s x ho w base v l m A c hs hx hW hown hm hlen hbase h
theorem sl_rd {w W : World} {A : Option Addr} {c : Nat} {l : List UInt8} (h : SL w w.heap.size (.slice A l.length c) l) (hW : Below w.heap.size w W) (hp : 0 < l.length) :
    ∃ b o, A = some ⟨b, o, none⟩ ∧ ∀ k', k' < l.length → W.cell? ⟨b, o + k', none⟩ = some (.int .u8 ((l.getD k' 0).toNat : Int)) := by
  obtain ⟨A', c', e, h1, h2, h3⟩ := h.on hW
  simp only [Value.slice.injEq] at e
  obtain ⟨rfl, _, _⟩ := e
  obtain ⟨b, o, hA, _, hc⟩ := h3 hp
  exact ⟨b, o, hA, hc⟩

set_option maxRecDepth 100000 in
set_option maxHeartbeats 1600000 in
theorem renr_any (l : List UInt8) (sw : Int) (d : Value) (w : World) (h : SL w w.heap.size d l) (hl : l.length ≤ 70000) :
    Calls Try.prog 27 #[.agg #[d, .int .i64 sw]] w (RspR l sw w) := by
  have HS := Lib.hid h
  obtain ⟨A, c, rfl, _, _, _⟩ := h
  by_cases hb : 65536 < l.length
  · have HE : Hid (respE l sw = 3) := by show _ = _; rw [respE, if_pos hb]
    have HV : Hid (respV l sw = []) := by show _ = _; rw [respV, HE.out, if_neg (by decide)]
    go_enter Try.func27, Try.ntmps27
    go_wp2_with fail
    go_ret2
    exact ⟨_, by rw [HE.out]; rfl, by rw [HV.out]; exact SL.nil _ _ _ _ (Nat.zero_le _), alloc_below _ _⟩
  have HW := Lib.hid (fun W : World => rword_any sw W)
  cases hw : wordB sw
  · have HE : Hid (respE l sw = 2) := by show _ = _; rw [respE, if_neg hb, if_neg (by rw [hw]; decide)]
    have HV : Hid (respV l sw = []) := by show _ = _; rw [respV, HE.out, if_neg (by decide)]
    rw [hw] at HW
    clear hw
    go_enter Try.func27, Try.ntmps27
    go_wp2_with fail
    refine (HW.out _).mono ?_
    rintro e w1 ⟨rfl, rfl⟩
    go_wp2_with fail
    go_ret2
    exact ⟨_, by rw [HE.out]; rfl, by rw [HV.out]; exact SL.nil _ _ _ _ (Nat.zero_le _), alloc_below _ _⟩
  · have HE : Hid (respE l sw = 0) := by show _ = _; rw [respE, if_neg hb, if_pos hw]
    obtain ⟨r0, r1⟩ := wordB_range hw
    obtain ⟨N, rfl⟩ := Int.eq_ofNat_of_zero_le (show 0 ≤ sw by omega)
    have HV : Hid (respV l (N : Int) = l ++ putL N 2) := by show _ = _; rw [respV, HE.out, if_pos rfl]; rfl
    have HN := Lib.hid (fun W : World => rnum_any N 2 W (by omega) (by omega) (by omega))
    rw [hw] at HW
    clear hw
    have hpl : (putL N 2).length = 2 := putL_length N 2
    have HPL := Lib.hid hpl
    clear hpl
    generalize hW0 : w.alloc (.cells #[.slice A l.length c, .int .i64 (N : Int)] 36) = W0
    have hsz0 : W0.heap.size = w.heap.size + 1 := by rw [← hW0, alloc_size]
    have b0 : W0.cell? ⟨w.heap.size, 0, none⟩ = some (.slice A l.length c) := by rw [← hW0]; exact (cell_of_row _ w.heap.size 0 _ 36 (0, 0) (heap_alloc_new w _)).trans rfl
    have b1 : W0.cell? ⟨w.heap.size, 1, none⟩ = some (.int .i64 (N : Int)) := by rw [← hW0]; exact (cell_of_row _ w.heap.size 1 _ 36 (0, 0) (heap_alloc_new w _)).trans rfl
    have HB0 : Hid (Below w.heap.size w W0) := by show Below _ _ _; rw [← hW0]; exact alloc_below _ _
    have HW0 := Lib.hid hW0
    have hlt0 : w.heap.size < W0.heap.size := by omega
    have HSZ := Lib.hid hsz0
    clear hW0 hsz0
    have HS0 := Lib.hid (HS.out.on HB0.out)
    go_enter Try.func27, Try.ntmps27
    go_wp2_with fail
    rw [HW0.out]
    refine (HW.out _).mono ?_
    rintro e w1 ⟨rfl, rfl⟩
    have hmade := OB.made W0
    go_wp2_with fail
    go_region_held3 (fun w' => w'.cell? ⟨w.heap.size, 0, none⟩ = some (.slice A l.length c) ∧ w'.cell? ⟨w.heap.size, 1, none⟩ = some (.int .i64 (N : Int)))
      (first
        | (go_keep; done)
        | exact ⟨b0, b1⟩
        | exact ⟨((alloc_below W0 _).cell (p := ⟨w.heap.size, 0, none⟩) hlt0).trans b0, ((alloc_below W0 _).cell (p := ⟨w.heap.size, 1, none⟩) hlt0).trans b1⟩
        | exact ⟨(hb5.cell (p := ⟨w.heap.size, 0, none⟩) hlt0).trans (((alloc_below W0 _).cell (p := ⟨w.heap.size, 0, none⟩) hlt0).trans b0), (hb5.cell (p := ⟨w.heap.size, 1, none⟩) hlt0).trans (((alloc_below W0 _).cell (p := ⟨w.heap.size, 1, none⟩) hlt0).trans b1)⟩
        | exact ⟨(hb6.cell (p := ⟨w.heap.size, 0, none⟩) hlt5).trans ((hb5.cell (p := ⟨w.heap.size, 0, none⟩) hlt0).trans (((alloc_below W0 _).cell (p := ⟨w.heap.size, 0, none⟩) hlt0).trans b0)), (hb6.cell (p := ⟨w.heap.size, 1, none⟩) hlt5).trans ((hb5.cell (p := ⟨w.heap.size, 1, none⟩) hlt0).trans (((alloc_below W0 _).cell (p := ⟨w.heap.size, 1, none⟩) hlt0).trans b1))⟩
        | exact ⟨(hb7.cell (p := ⟨w.heap.size, 0, none⟩) hlt0).trans ((hb6.cell (p := ⟨w.heap.size, 0, none⟩) hlt5).trans ((hb5.cell (p := ⟨w.heap.size, 0, none⟩) hlt0).trans (((alloc_below W0 _).cell (p := ⟨w.heap.size, 0, none⟩) hlt0).trans b0))), (hb7.cell (p := ⟨w.heap.size, 1, none⟩) hlt0).trans ((hb6.cell (p := ⟨w.heap.size, 1, none⟩) hlt5).trans ((hb5.cell (p := ⟨w.heap.size, 1, none⟩) hlt0).trans (((alloc_below W0 _).cell (p := ⟨w.heap.size, 1, none⟩) hlt0).trans b1)))⟩)
      (first
        | (refine step_appS rfl (.tmp 12) (.tmp 14) rfl (W0.alloc (.cells #[] 5)) W0.heap.size _ [] l A c (by rfl) (by rfl) (by first | exact Below.refl _ _ | exact (Below.refl _ _).drew) hmade (fun hp => sl_rd HS0.out (by first | exact alloc_below _ _ | exact (alloc_below _ _).drew) hp) (by simp only [List.length_nil]; omega) (by rw [alloc_size]; omega) ?_; intro v5 w5 hv5 hb5; have hlt5 : w.heap.size < w5.heap.size := (by have := hb5.size; rw [alloc_size] at this; omega))
        | (go_at_call 42; refine (HN.out _).mono ?_; rintro e w6 ⟨v6, rfl, hv6, hb6⟩; have HV6 := Lib.hid hv6; obtain ⟨A6, c6, rfl, _, _, _⟩ := hv6)
        | (refine step_appS rfl (.tmp 15) (.tmp 18) rfl w6 W0.heap.size _ ([] ++ l) (putL N 2) A6 c6 (by rfl) (by rfl) (by first | exact Below.refl _ _ | exact (Below.refl _ _).drew) (hv5.later hb6) (fun hp => sl_rd HV6.out (by first | exact Below.refl _ _ | exact (Below.refl _ _).drew) hp) (by simp only [List.nil_append]; rw [HPL.out]; omega) (by have h5 := hb5.size; have h6 := hb6.size; rw [alloc_size] at h5; omega) ?_; intro v7 w7 hv7 hb7))
    go_wp2_with fail
    go_ret2
    refine ⟨_, by rw [HE.out]; rfl, by rw [HV.out]; exact hv7.sl, ?_⟩
    have e5 := hb5.size
    have e6 := hb6.size
    rw [alloc_size] at e5
    exact HB0.out.trans (((alloc_below W0 _).trans (hb5.trans ((hb6.mono (by omega)).trans hb7))).mono (by have := HSZ.out; omega))
end Go.Proofs.Ytjoibonbmalbdaa
