/-
  The reference's Same and SameResponse, and alike, at equal commands and responses.
  A turn: a command is protected and accepted, and its response likewise, whatever the level.
  Plain mathematics of layer 24: a MAC tells one changed byte.
  What the law of changed commands keeps; bits of numbers that are changed.
  A response of which one byte is changed is not accepted.
  A bit of a byte that is changed.
-/
import Derived.Test.YtdalcldilmmgmaaDoorMgh
import Derived.Test.YtdalcldilmmgmaaDoorMgf
namespace Go.Proofs.YtdalcldilmmgmaaDoor
set_option linter.unusedVariables false
set_option linter.unusedSimpArgs false
open Go.RowKit


set_option maxRecDepth 100000 in
set_option maxHeartbeats 3200000 in
theorem rsamec_eq (x : Cm) (v u : Value) (w : World) (ha : SL w w.heap.size v x.data) (hb : SL w w.heap.size u x.data) :
    Calls Tryd.prog 31 #[x.val v, x.val u] w fun e w' => e = .returned (.bool true) ∧ Below w.heap.size w w' := by
  have hs := fun W (hW : Below w.heap.size w W) => rsame_any x.data x.data v u W W.heap.size (ha.on hW) (hb.on hW)
  simp only [decide_true] at hs
  obtain ⟨A1, k1, rfl, _⟩ := id ha
  obtain ⟨A2, k2, rfl, _⟩ := id hb
  obtain ⟨cla, ins, p1, p2, data, le, long⟩ := x
  simp only [Cm.val] at *
  generalize hn : data.length = n at *
  have HRW : Hid (Rw w ((w.alloc (Obj.cells #[.int .i64 cla, .int .i64 ins, .int .i64 p1, .int .i64 p2, .slice A1 n k1, .int .i64 le, .bool long] 30)).alloc (Obj.cells #[.int .i64 cla, .int .i64 ins, .int .i64 p1, .int .i64 p2, .slice A2 n k2, .int .i64 le, .bool long] 30)) (Obj.cells #[.int .i64 cla, .int .i64 ins, .int .i64 p1, .int .i64 p2, .slice A1 n k1, .int .i64 le, .bool long] 30) (Obj.cells #[.int .i64 cla, .int .i64 ins, .int .i64 p1, .int .i64 p2, .slice A2 n k2, .int .i64 le, .bool long] 30)) := ⟨heap_alloc2_old .., heap2_new .., alloc2_below ..⟩
  have HS := Lib.hid hs
  clear ha hb hs hn
  obtain ⟨⟨q0, q1, q2, q3, q4, q5, q6⟩, ⟨f0, f1, f2, f3, f4, f5, f6⟩⟩ := cells7 HRW.out.r1
  obtain ⟨⟨t0, t1, t2, t3, t4, t5, t6⟩, ⟨g0, g1, g2, g3, g4, g5, g6⟩⟩ := cells7 HRW.out.r2
  go_enter Tryd.func31, Tryd.ntmps31
  go_wp2_with fail
  refine (HS.out _ HRW.out.b).mono ?_
  rintro e w3 ⟨rfl, nq, rfl⟩
  have hz := (HRW.out.drn nq).b
  go_wp2_with fail
  go_ret
  exact ⟨rfl, hz⟩
set_option maxRecDepth 100000 in
set_option maxHeartbeats 3200000 in
theorem rsamer_eq (x : Rs) (v u : Value) (w : World) (ha : SL w w.heap.size v x.data) (hb : SL w w.heap.size u x.data) :
    Calls Tryd.prog 16 #[x.val v, x.val u] w fun e w' => e = .returned (.bool true) ∧ Below w.heap.size w w' := by
  have hs := fun W (hW : Below w.heap.size w W) => rsame_any x.data x.data v u W W.heap.size (ha.on hW) (hb.on hW)
  simp only [decide_true] at hs
  obtain ⟨A1, k1, rfl, _⟩ := id ha
  obtain ⟨A2, k2, rfl, _⟩ := id hb
  obtain ⟨data, sw⟩ := x
  simp only [Rs.val] at *
  generalize hn : data.length = n at *
  have HRW : Hid (Rw w ((w.alloc (Obj.cells #[.slice A1 n k1, .int .i64 sw] 32)).alloc (Obj.cells #[.slice A2 n k2, .int .i64 sw] 32)) (Obj.cells #[.slice A1 n k1, .int .i64 sw] 32) (Obj.cells #[.slice A2 n k2, .int .i64 sw] 32)) := ⟨heap_alloc2_old .., heap2_new .., alloc2_below ..⟩
  have HS := Lib.hid hs
  clear ha hb hs hn
  obtain ⟨⟨q0, q1⟩, p0, p1⟩ := cells2 HRW.out.r1
  obtain ⟨⟨t0, t1⟩, f0, f1⟩ := cells2 HRW.out.r2
  go_enter Tryd.func16, Tryd.ntmps16
  go_wp2_with fail
  refine (HS.out _ HRW.out.b).mono ?_
  rintro e w3 ⟨rfl, nq, rfl⟩
  have hz := (HRW.out.drn nq).b
  go_wp2_with fail
  go_ret
  exact ⟨rfl, hz⟩
set_option maxRecDepth 100000 in
set_option maxHeartbeats 3200000 in
theorem alike_eq (cla ins p1 p2 : Int) (data : List UInt8) (le : Int) (l1 l2 : Bool) (v u : Value) (w : World) (ha : SL w w.heap.size v data) (hb : SL w w.heap.size u data) :
    Calls Tryd.prog 12 #[(⟨cla, ins, p1, p2, data, le, l1⟩ : Cm).val v, (⟨cla, ins, p1, p2, data, le, l2⟩ : Cm).val u] w fun e w' => e = .returned (.bool true) ∧ Below w.heap.size w w' := by
  obtain ⟨A1, k1, rfl, _⟩ := id ha
  obtain ⟨A2, k2, rfl, _⟩ := id hb
  have hs := fun W (h1 : SL W W.heap.size (.slice A1 data.length k1) data) (h2 : SL W W.heap.size (.slice A2 data.length k2) data) => rsamec_eq ⟨cla, ins, p1, p2, data, le, l2⟩ _ _ W h1 h2
  simp only [Cm.val] at *
  have hrw : Rw w ((w.alloc (Obj.cells #[.int .i64 cla, .int .i64 ins, .int .i64 p1, .int .i64 p2, .slice A1 data.length k1, .int .i64 le, .bool l2] 30)).alloc (Obj.cells #[.int .i64 cla, .int .i64 ins, .int .i64 p1, .int .i64 p2, .slice A2 data.length k2, .int .i64 le, .bool l2] 30)) (Obj.cells #[.int .i64 cla, .int .i64 ins, .int .i64 p1, .int .i64 p2, .slice A1 data.length k1, .int .i64 le, .bool l2] 30) (Obj.cells #[.int .i64 cla, .int .i64 ins, .int .i64 p1, .int .i64 p2, .slice A2 data.length k2, .int .i64 le, .bool l2] 30) := ⟨heap_alloc2_old .., heap2_new .., alloc2_below ..⟩
  have HV := Lib.hid (And.intro (ha.on hrw.b) (hb.on hrw.b))
  have HRW := Lib.hid hrw
  have HS := Lib.hid hs
  clear ha hb hs hrw
  go_enter Tryd.func12, Tryd.ntmps12
  go_wp2_with fail
  refine (HS.out _ HV.out.1 HV.out.2).mono ?_
  rintro e w3 ⟨rfl, hb3⟩
  have hz := (HRW.out.on hb3).b
  go_wp2_with fail
  go_ret
  exact ⟨rfl, hz⟩



/-- The command as it is transmitted, and as it is accepted. -/
def agY (S : Ch) (x : Cm) (n : Nat) : Cm := if hasB S.lvl 1 = true then wrY S x n else x
def agZ (S : Ch) (x : Cm) (n : Nat) : Cm := ⟨x.cla, x.ins, x.p1, x.p2, x.data, x.le, (agY S x n).long⟩
theorem agY_le (S : Ch) (x : Cm) (n : Nat) : (agY S x n).data.length ≤ x.data.length + 16 := by
  unfold agY
  split
  · exact wrD_le S x n
  · omega
theorem agY_8 (S : Ch) (x : Cm) (n : Nat) (h : hasB S.lvl 1 = true) : 8 ≤ (agY S x n).data.length := by
  unfold agY
  rw [if_pos h]
  have : (wrY S x n).data.length = (wrB S x n).length + 8 := wrD_len S x n
  omega
theorem dec_encB (s : Ch) (bit : Int) (iv d : List UInt8) (he : s.enc.length = 16) (hiv : iv.length = 8) : decF s bit iv (encF s bit iv d) = some d := by
  unfold decF
  by_cases h : hasB s.lvl bit = true ∧ d.length ≠ 0
  · have hp : (padL d 8).length = 8 * ((padL d 8).length / 8) := by rw [padL_len]; omega
    have hl := cbE_len s.enc iv (padL d 8) hp
    have h0 : (padL d 8).length ≠ 0 := by rw [padL_len]; omega
    rw [encF, if_pos h, if_pos ⟨h.1, by rw [hl]; exact h0⟩]
    have hf : fitC s.enc iv (cbE s.enc iv (padL d 8)) = 0 := by
      unfold fitC
      rw [if_neg (by rw [hl, not_or, not_or, Decidable.not_not, Decidable.not_not, Decidable.not_not]; exact ⟨he, hiv, by omega⟩)]
    rw [if_pos hf, cbD_cbE _ _ _ hiv hp]
    exact unpadL_padL d 8
  · rw [encF, if_neg h, if_neg h]
section
variable {S : Ch} {x : Cm} {n : Nat} (o : Okc S n) (hn : n ≤ 1000) (hE : wrE S x = 0) (hl : x.data.length ≤ 1984)
include o hn hE hl in
theorem ag_wrap (g : Nat) (A : Option Addr) (k : Nat) (w : World) (h : CH w g S) (hd : SL w w.heap.size (.slice A x.data.length k) x.data) :
    Calls Tryd.prog 10 #[.pointer (some ⟨g, 0, none⟩), x.val (.slice A x.data.length k)] w (WRP g S (agY S x n) w) := by
  unfold agY
  by_cases hL : hasB S.lvl 1 = true
  · rw [if_pos hL]
    exact pWrap_mac g S x A k n w h o hn hL hE hd hl
  · rw [if_neg hL]
    have hL2 : hasB S.lvl 1 = false := by simpa using hL
    obtain ⟨N, hN, hN6⟩ := le_nat (wrE_zero hE).1
    exact pWrap_ok g S x x A x.data.length k w h o.cv ⟨by rw [o.cnt]; omega, by rw [o.cnt]; omega⟩
      (fun W hW => pwrap_plain g S x A k W (h.below hW) (by rw [hN]; omega) hE hL2 (hd.on hW) (by omega)) (by omega) (fun q => absurd q hL)
include o hn hE hl in
theorem ag_unwrap (g : Nat) (A : Option Addr) (k : Nat) (w : World) (h : CH w g S) (hd : SL w w.heap.size (.slice A (agY S x n).data.length k) (agY S x n).data) :
    Calls Tryd.prog 11 #[.pointer (some ⟨g, 0, none⟩), (agY S x n).val (.slice A (agY S x n).data.length k)] w (UWP g S (agY S x n) (agZ S x n) w) := by
  have hyl := agY_le S x n
  by_cases hL : hasB S.lvl 1 = true
  · have hr := rt_any S S x n o.enc o.cls hE hl
    have e : agY S x n = wrY S x n := by unfold agY; rw [if_pos hL]
    have e2 : agZ S x n = unY (wrY S x n) x.data := by rw [hr.un]; unfold agZ; rw [e]
    rw [e2]
    rw [e] at hd hyl ⊢
    exact pUnwrap_mac g S x (wrY S x n) A k n w h o hn hL hr hd (by omega)
  · have hL2 : hasB S.lvl 1 = false := by simpa using hL
    obtain ⟨h0, hs⟩ := wrE_zero hE
    obtain ⟨N, hN, hN6⟩ := le_nat h0
    have e : agY S x n = x := by unfold agY; rw [if_neg hL]
    have e2 : agZ S x n = x := by unfold agZ; rw [e]
    have hu : unE S x = 0 := by unfold unE; rw [if_neg (by rw [h0]; simp), if_neg (by rw [hs]; simp)]
    rw [e2]
    rw [e] at hd ⊢
    exact pUnwrap_ok g S x x A k w h o.cv ⟨by rw [o.cnt]; omega, by rw [o.cnt]; omega⟩
      (fun W hW => punwrap_plain g S x A k W (h.below hW) (by rw [hN]; omega) hu hL2 (hd.on hW) (by omega)) hd (by omega) (fun q => absurd q hL)
end
/-- The response as it is transmitted. -/
def asY (S : Ch) (r : Rs) (n : Nat) : Rs := if hasB S.lvl 16 = true then seY S r n else r
theorem asY_sw (S : Ch) (r : Rs) (n : Nat) : (asY S r n).sw = r.sw := by unfold asY; split <;> rfl
theorem ckE_zero {S : Ch} {r : Rs} (h : ckE S r = 0) : S.exp = true ∧ ∃ N : Nat, r.sw = (N : Int) ∧ N ≤ 65535 := by
  unfold ckE at h
  split at h
  · simp at h
  · rename_i h1
    split at h
    · simp at h
    · rename_i h2
      exact ⟨by simpa using h1, r.sw.toNat, by omega, by omega⟩
section
variable {S : Ch} {r : Rs} {n : Nat} (o : Okc S n) (hn : n ≤ 1000) (hE : ckE S r = 0) (hl : r.data.length ≤ 1984)
include o hn hE hl in
theorem as_seal (g : Nat) (A : Option Addr) (k : Nat) (w : World) (h : CH w g S) (hd : SL w w.heap.size (.slice A r.data.length k) r.data) :
    Calls Tryd.prog 14 #[.pointer (some ⟨g, 0, none⟩), r.val (.slice A r.data.length k)] w (SLP g S (asY S r n) w) := by
  obtain ⟨_, N, hN, hN6⟩ := ckE_zero hE
  unfold asY
  by_cases hL : hasB S.lvl 16 = true
  · rw [if_pos hL]
    exact pSeal_ok g S r (seY S r n) A r.data.length k w h o.cv (fun W hW => pseal_mac g S r A k n N W (h.below hW) hN hN6 hE hL o.enc o.rmac o.cv o.cnt (by omega) (hd.on hW) (by omega))
  · rw [if_neg hL]
    exact pSeal_ok g S r r A r.data.length k w h o.cv (fun W hW => pseal_plain g S r A k W (h.below hW) hE (by simpa using hL) (hd.on hW) (by omega))
theorem seB_le (S : Ch) (r : Rs) (n : Nat) : (seB S r n).length ≤ r.data.length + 8 := encF_le S 32 (ivF S.enc n 128) r.data (ivF_len ..)
theorem seY_len (S : Ch) (r : Rs) (n : Nat) : (seY S r n).data.length = (seB S r n).length + 8 := by
  have : (rmF S r.sw (seB S r n)).length = 8 := macL_len _ _ _
  show (seB S r n ++ rmF S r.sw (seB S r n)).length = _
  rw [List.length_append, this]
theorem seY_take (S : Ch) (r : Rs) (n : Nat) : (seY S r n).data.take ((seY S r n).data.length - 8) = seB S r n := by
  rw [seY_len, Nat.add_sub_cancel]
  show (seB S r n ++ rmF S r.sw (seB S r n)).take _ = _
  rw [List.take_append_of_le_length (Nat.le_refl _), List.take_length]
theorem seY_drop (S : Ch) (r : Rs) (n : Nat) : (seY S r n).data.drop ((seY S r n).data.length - 8) = rmF S r.sw (seB S r n) := by
  rw [seY_len, Nat.add_sub_cancel]
  show (seB S r n ++ rmF S r.sw (seB S r n)).drop _ = _
  rw [List.drop_append_of_le_length (Nat.le_refl _), List.drop_length, List.nil_append]
include o hn hE hl in
theorem as_open (g : Nat) (A : Option Addr) (k : Nat) (w : World) (h : CH w g S) (hd : SL w w.heap.size (.slice A (asY S r n).data.length k) (asY S r n).data) :
    Calls Tryd.prog 15 #[.pointer (some ⟨g, 0, none⟩), (asY S r n).val (.slice A (asY S r n).data.length k)] w (SLP g S r w) := by
  obtain ⟨_, N, hN, hN6⟩ := ckE_zero hE
  by_cases hL : hasB S.lvl 16 = true
  · have e : asY S r n = seY S r n := by unfold asY; rw [if_pos hL]
    have hb := seB_le S r n
    have hyl := seY_len S r n
    have hE2 : ckE S (seY S r n) = 0 := hE
    rw [e] at hd ⊢
    refine pOpen_ok g S (seY S r n) r A (seY S r n).data.length k w h o.cv (fun W hW => ?_)
    exact popen_ok g S (seY S r n) A k n N W (h.below hW) hN hN6 hE2 hL o.rmac o.cv o.enc o.cnt (by omega) (hd.on hW) (by omega) (by omega) (by rw [seY_drop, seY_take]; rfl) r.data (by rw [seY_take]; exact dec_encB S 32 _ _ o.enc (ivF_len ..))
  · have e : asY S r n = r := by unfold asY; rw [if_neg hL]
    rw [e] at hd ⊢
    exact pOpen_ok g S r r A r.data.length k w h o.cv (fun W hW => popen_plain g S r A k W (h.below hW) hE (by simpa using hL) (hd.on hW) (by omega))
end
/-- Seal of a response that cannot be one. -/
theorem as_bad {S : Ch} {r : Rs} {n : Nat} (o : Okc S n) (hE : ckE S r ≠ 0) (g : Nat) (A : Option Addr) (m k : Nat) (w : World) (h : CH w g S) (ht : ET w) :
    Calls Tryd.prog 14 #[.pointer (some ⟨g, 0, none⟩), r.val (.slice A m k)] w fun e w' => e = .returned (.tuple #[(⟨[], 0⟩ : Rs).val (.slice none 0 0), .int .i64 (ckE S r)]) ∧ Below w.heap.size w w' :=
  pSeal_bad g S r (ckE S r) A m k w h o.cv ht hE (fun W hW => pseal_bad g S r A m k W (h.below hW) hE)



theorem blk_get (d : List UInt8) (i t : Nat) : (blk d i)[t]? = if t < 8 then d[8 * i + t]? else none := by
  unfold blk
  rw [List.getElem?_take]
  split
  · rw [List.getElem?_drop]
  · rfl
theorem blk_set_other (d : List UInt8) (j i : Nat) (v : UInt8) (h : i ≠ j / 8) : blk (d.set j v) i = blk d i := by
  apply List.ext_getElem?
  intro t
  rw [blk_get, blk_get]
  split
  · rw [List.getElem?_set_ne (by omega)]
  · rfl
theorem blk_set_own (d : List UInt8) (j : Nat) (v : UInt8) (hj : j < d.length) (h : d[j]? ≠ some v) : blk (d.set j v) (j / 8) ≠ blk d (j / 8) := by
  intro e
  have := congrArg (fun l : List UInt8 => l[j % 8]?) e
  simp only [blk_get] at this
  rw [if_pos (by omega), if_pos (by omega), show 8 * (j / 8) + j % 8 = j by omega, List.getElem?_set_self hj] at this
  exact h this.symm
theorem encS_diff (k iv p q : List UInt8) (i0 : Nat) (hv : iv.length = 8) (hlen : p.length = q.length) (hs : ∀ i, i ≠ i0 → blk p i = blk q i) (hd : blk p i0 ≠ blk q i0) :
    ∀ m, 8 * m ≤ p.length → (m ≤ i0 → (encS k iv p m).2 = (encS k iv q m).2) ∧ (i0 < m → (encS k iv p m).2 ≠ (encS k iv q m).2) := by
  intro m
  induction m with
  | zero => intro _; exact ⟨fun _ => rfl, fun h => absurd h (by omega)⟩
  | succ m ih =>
    intro hm
    obtain ⟨i1, i2⟩ := ih (by omega)
    have lp := blk_len p m (by omega)
    have lq := blk_len q m (by omega)
    have kp := encS_link k iv p m hv
    have kq := encS_link k iv q m hv
    refine ⟨fun h => ?_, fun h => ?_⟩
    · rw [encS, encS]
      simp only []
      rw [hs m (by omega), i1 (by omega)]
    · rw [encS, encS]
      simp only []
      intro e
      have := congrArg (decB k) e
      rw [dec_enc _ _ (xor_len8 lp kp), dec_enc _ _ (xor_len8 lq kq)] at this
      by_cases hq : m = i0
      · subst hq
        rw [i1 (Nat.le_refl _), xorL_comm (blk p m), xorL_comm (blk q m)] at this
        exact hd (xorL_cancel kq lp lq this)
      · rw [hs m hq] at this
        exact i2 (by omega) (xorL_cancel lq kp kq this)
theorem padL_set (d : List UInt8) (j : Nat) (v : UInt8) (hj : j < d.length) : padL (d.set j v) 8 = (padL d 8).set j v := by
  unfold padL
  rw [List.length_set, List.append_assoc, List.append_assoc, List.set_append_left _ _ hj]
/-- One changed byte changes the MAC. -/
theorem macL_set (k iv d : List UInt8) (j : Nat) (v : UInt8) (hv : iv.length = 8) (hj : j < d.length) (h : d[j]? ≠ some v) : macL k iv (d.set j v) ≠ macL k iv d := by
  have hl : (padL (d.set j v) 8).length = (padL d 8).length := by rw [padL_set d j v hj, List.length_set]
  have hjl : j < (padL d 8).length := by rw [padL_len]; omega
  have hp : (padL d 8)[j]? = d[j]? := by
    unfold padL
    rw [List.append_assoc, List.getElem?_append_left hj]
  rw [macL_link k iv _ hv, macL_link k iv _ hv, hl]
  have := encS_diff k iv (padL (d.set j v) 8) (padL d 8) (j / 8) hv hl
    (fun i hi => by rw [padL_set d j v hj]; exact blk_set_other _ _ _ _ hi)
    (by rw [padL_set d j v hj]; exact blk_set_own _ _ _ hjl (by rw [hp]; exact h))
    ((padL d 8).length / 8) (by rw [hl]; omega)
  exact this.2 (by have := padL_len d; omega)

/-! ### Commands -/
theorem cmF_body (S : Ch) (x : Cm) (b : List UInt8) (j : Nat) (v : UInt8) (h8 : S.cv.length = 8) (hj : j < b.length) (h : b[j]? ≠ some v) : cmF S x (b.set j v) ≠ cmF S x b := by
  unfold cmF
  rw [List.length_set]
  have e : ∀ p1 p2 p3 c : List UInt8, p1 ++ (p2 ++ (p3 ++ c)) = (p1 ++ (p2 ++ p3)) ++ c := by intros; simp [List.append_assoc]
  rw [e, e]
  generalize (hdM x ++ (putL (b.length + 8) 3 ++ putL x.le.toNat 3)) = P
  have e2 : P ++ b.set j v = (P ++ b).set (P.length + j) v := by
    rw [List.set_append_right _ _ (by omega), Nat.add_sub_cancel_left]
  rw [e2]
  refine macL_set _ _ _ _ _ h8 (by rw [List.length_append]; omega) ?_
  rw [List.getElem?_append_right (by omega), Nat.add_sub_cancel_left]
  exact h
/-- Another byte of the head. -/
theorem cmF_head (S : Ch) (x y : Cm) (b : List UInt8) (j : Nat) (v : UInt8) (h8 : S.cv.length = 8) (hle : y.le = x.le) (hh : hdM y = (hdM x).set j v) (hj : j < 4) (h : (hdM x)[j]? ≠ some v) : cmF S y b ≠ cmF S x b := by
  unfold cmF
  have l4 : (hdM x).length = 4 := rfl
  rw [hle, hh, ← List.set_append_left j v (by rw [l4]; exact hj)]
  refine macL_set _ _ _ _ _ h8 (by rw [List.length_append, l4]; omega) ?_
  rw [List.getElem?_append_left (by rw [l4]; exact hj)]
  exact h
/-- A changed command is not accepted. -/
theorem bad_any {S : Ch} (o : Okc S 0) (hL : hasB S.lvl 1 = true) {a bad : Cm} (hE : wrE S a = 0) (hla : a.data.length ≤ 600) (hcla : bad.cla = (onX S a).cla) (hle : bad.le = a.le) (hlen : bad.data.length = (onX S a).data.length)
    (hM : bad.data.drop (bad.data.length - 8) ≠ cmF S bad (bad.data.take (bad.data.length - 8))) (g : Nat) (A : Option Addr) (k : Nat) (W : World) (h : CH W g S) (ht : ET W) (hd : SL W W.heap.size (.slice A bad.data.length k) bad.data) :
    Calls Tryd.prog 11 #[.pointer (some ⟨g, 0, none⟩), bad.val (.slice A bad.data.length k)] W fun e w' => ∃ E : Int, (E == 0) = false ∧ e = .returned (.tuple #[Cm.zero.val (.slice none 0 0), .int .i64 E]) ∧ CH w' g S.shut ∧ Kb g W w' := by
  have hr := rt_any S S a 0 o.enc o.cls hE (by omega)
  have hx := onX_le S a
  have hx8 : 8 ≤ (onX S a).data.length := hr.l8
  obtain ⟨N, hN, hN6⟩ := le_nat (wrE_zero hE).1
  by_cases hc : clE S bad = 0
  · have hs : (clsK bad.cla).sec = true := by rw [hcla]; exact hr.sec
    refine (pUnwrap_wrong g S bad A k 0 W h ht o hL hc hs (by omega) hM hd (by omega)).mono ?_
    rintro e w' ⟨he, hc2, hk⟩
    exact ⟨17, by decide, he, hc2, hk⟩
  · have hu : unE S bad ≠ 0 := by rw [unE_cl hc]; exact hc
    refine (pUnwrap_bad g S bad (unE S bad) A bad.data.length k W h o.cv ht hu (fun V hV => punwrap_bad g S bad A k V (h.below hV) (by rw [hle, hN]; omega) hu)).mono ?_
    rintro e w' ⟨he, hc2, hk⟩
    exact ⟨_, by rw [beq_eq_false_iff_ne]; exact hu, he, hc2, hk⟩
/-- A byte of the data is another one. -/
theorem bad_data {S : Ch} (o : Okc S 0) {a : Cm} (hE : wrE S a = 0) (hla : a.data.length ≤ 600) (j : Nat) (v : UInt8) (hj : j < (onX S a).data.length) (h : (onX S a).data[j]? ≠ some v) (bad : Cm) (hb : bad = { onX S a with data := (onX S a).data.set j v }) :
    bad.data.drop (bad.data.length - 8) ≠ cmF S bad (bad.data.take (bad.data.length - 8)) := by
  have hr := rt_any S S a 0 o.enc o.cls hE (by omega)
  have hm : (onX S a).data.drop ((onX S a).data.length - 8) = cmF S (onX S a) ((onX S a).data.take ((onX S a).data.length - 8)) := hr.mac
  have h8 : 8 ≤ (onX S a).data.length := hr.l8
  subst hb
  show ((onX S a).data.set j v).drop (((onX S a).data.set j v).length - 8) ≠ cmF S (onX S a) (((onX S a).data.set j v).take (((onX S a).data.set j v).length - 8))
  rw [List.length_set]
  generalize (onX S a).data = D at *
  obtain ⟨n, hn⟩ : ∃ n, D.length = n + 8 := ⟨D.length - 8, by omega⟩
  rw [hn, Nat.add_sub_cancel] at hm ⊢
  by_cases q : j < n
  · have e1 : (D.set j v).drop n = D.drop n := by rw [List.drop_set_of_lt q]
    have e2 : (D.set j v).take n = (D.take n).set j v := by rw [List.take_set]
    rw [e1, e2, hm]
    refine (cmF_body S _ _ j v o.cv (by rw [List.length_take]; omega) ?_).symm
    rw [List.getElem?_take, if_pos q]
    exact h
  · have e2 : (D.set j v).take n = D.take n := by rw [List.take_set_of_le (by omega)]
    rw [e2, ← hm]
    intro e
    have := congrArg (fun l : List UInt8 => l[j - n]?) e
    simp only [List.getElem?_drop] at this
    rw [show n + (j - n) = j by omega, List.getElem?_set_self hj] at this
    exact h this.symm
/-- A byte of the head is another one. -/
theorem bad_head {S : Ch} (o : Okc S 0) {a : Cm} (hE : wrE S a = 0) (hla : a.data.length ≤ 600) (j : Nat) (v : UInt8) (hj : j < 4) (bad : Cm) (hd : bad.data = (onX S a).data) (hle : bad.le = (onX S a).le) (hh : hdM bad = (hdM (onX S a)).set j v) (h : (hdM (onX S a))[j]? ≠ some v) :
    bad.data.drop (bad.data.length - 8) ≠ cmF S bad (bad.data.take (bad.data.length - 8)) := by
  have hr := rt_any S S a 0 o.enc o.cls hE (by omega)
  have hm : (onX S a).data.drop ((onX S a).data.length - 8) = cmF S (onX S a) ((onX S a).data.take ((onX S a).data.length - 8)) := hr.mac
  rw [hd, hm]
  exact (cmF_head S _ _ _ j v o.cv hle hh hj h).symm



/-- Two boxes, the protected command's and the changed one's, their data, and the two sides. -/
structure Oy (w W : World) (b5 g1 g2 : Nat) (SO XO : Obj) (Y bad : Cm) (A5 : Option Addr) (c5 : Nat) (Ab : Option Addr) (cb : Nat) (S1 S2 : Ch) : Prop where
  b : Below w.heap.size w W
  rs : W.heap[w.heap.size]? = some SO
  rx : W.heap[w.heap.size + 1]? = some XO
  rw : W.heap[b5]? = some (.cells #[.int .i64 Y.cla, .int .i64 Y.ins, .int .i64 Y.p1, .int .i64 Y.p2, .slice A5 Y.data.length c5, .int .i64 Y.le, .bool Y.long] 30 (0, 0))
  rb : W.heap[b5 + 1]? = some (.cells #[.int .i64 bad.cla, .int .i64 bad.ins, .int .i64 bad.p1, .int .i64 bad.p2, .slice Ab bad.data.length cb, .int .i64 bad.le, .bool bad.long] 30 (0, 0))
  sw : SL W W.heap.size (.slice A5 Y.data.length c5) Y.data
  sb : SL W W.heap.size (.slice Ab bad.data.length cb) bad.data
  c1 : CH W g1 S1
  c2 : CH W g2 S2
section
variable {w W W2 : World} {b5 g1 g2 g3 : Nat} {SO XO : Obj} {Y bad : Cm} {A5 Ab : Option Addr} {c5 cb : Nat} {S1 S2 S3 S4 : Ch}
theorem Oy.on (h : Oy w W b5 g1 g2 SO XO Y bad A5 c5 Ab cb S1 S2) (hb : Below W.heap.size W W2) : Oy w W2 b5 g1 g2 SO XO Y bad A5 c5 Ab cb S1 S2 :=
  ⟨h.b.trans (hb.mono h.b.size), (hb.block _ (blk_lt h.rs)).trans h.rs, (hb.block _ (blk_lt h.rx)).trans h.rx, (hb.block _ (blk_lt h.rw)).trans h.rw, (hb.block _ (blk_lt h.rb)).trans h.rb, h.sw.on hb, h.sb.on hb, h.c1.below hb, h.c2.below hb⟩
theorem Oy.al (h : Oy w W b5 g1 g2 SO XO Y bad A5 c5 Ab cb S1 S2) (o : Obj) : Oy w (W.alloc o) b5 g1 g2 SO XO Y bad A5 c5 Ab cb S1 S2 := h.on (alloc_below W o)
theorem Oy.dr (h : Oy w W b5 g1 g2 SO XO Y bad A5 c5 Ab cb S1 S2) : Oy w W.drew b5 g1 g2 SO XO Y bad A5 c5 Ab cb S1 S2 := h.on (Below.refl _ _).drew
/-- A call on a third side. -/
theorem Oy.k3 (h : Oy w W b5 g1 g2 SO XO Y bad A5 c5 Ab cb S1 S2) (hc : CH W g3 S3) (hk : Kb g3 W W2) (h0 : w.heap.size + 1 < g3) (h1 : b5 ≠ g3) (h2 : b5 + 1 ≠ g3) (h3 : g3 ≠ g1) (h4 : g3 ≠ g2) : Oy w W2 b5 g1 g2 SO XO Y bad A5 c5 Ab cb S1 S2 :=
  ⟨h.b.trans (hk.below (by omega) h.b.size), (hk.block _ (blk_lt h.rs) (by omega)).trans h.rs, (hk.block _ (blk_lt h.rx) (by omega)).trans h.rx, (hk.block _ (blk_lt h.rw) h1).trans h.rw, (hk.block _ (blk_lt h.rb) h2).trans h.rb,
   ((hc.off h.sw (Nat.le_refl _)).kb hk).sl, ((hc.off h.sb (Nat.le_refl _)).kb hk).sl, hc.other h.c1 h3 hk, hc.other h.c2 h4 hk⟩
theorem Oy.k2 (h : Oy w W b5 g1 g2 SO XO Y bad A5 c5 Ab cb S1 S2) (hk : Kb g2 W W2) (hc : CH W2 g2 S4) (h0 : w.heap.size + 1 < g2) (h1 : b5 ≠ g2) (h2 : b5 + 1 ≠ g2) (h3 : g2 ≠ g1) : Oy w W2 b5 g1 g2 SO XO Y bad A5 c5 Ab cb S1 S4 :=
  ⟨h.b.trans (hk.below (by omega) h.b.size), (hk.block _ (blk_lt h.rs) (by omega)).trans h.rs, (hk.block _ (blk_lt h.rx) (by omega)).trans h.rx, (hk.block _ (blk_lt h.rw) h1).trans h.rw, (hk.block _ (blk_lt h.rb) h2).trans h.rb,
   ((h.c2.off h.sw (Nat.le_refl _)).kb hk).sl, ((h.c2.off h.sb (Nat.le_refl _)).kb hk).sl, h.c2.other h.c1 h3 hk, hc⟩
theorem Oy.k1 (h : Oy w W b5 g1 g2 SO XO Y bad A5 c5 Ab cb S1 S2) (hk : Kb g1 W W2) (hc : CH W2 g1 S4) (h0 : w.heap.size + 1 < g1) (h1 : b5 ≠ g1) (h2 : b5 + 1 ≠ g1) (h3 : g1 ≠ g2) : Oy w W2 b5 g1 g2 SO XO Y bad A5 c5 Ab cb S4 S2 :=
  ⟨h.b.trans (hk.below (by omega) h.b.size), (hk.block _ (blk_lt h.rs) (by omega)).trans h.rs, (hk.block _ (blk_lt h.rx) (by omega)).trans h.rx, (hk.block _ (blk_lt h.rw) h1).trans h.rw, (hk.block _ (blk_lt h.rb) h2).trans h.rb,
   ((h.c1.off h.sw (Nat.le_refl _)).kb hk).sl, ((h.c1.off h.sb (Nat.le_refl _)).kb hk).sl, hc, h.c1.other h.c2 h3 hk⟩
/-- A number of the changed command's box is stored. -/
theorem Oy.st {bad2 : Cm} (h : Oy w W b5 g1 g2 SO XO Y bad A5 c5 Ab cb S1 S2) (i : Nat) (u : Value) (h0 : w.heap.size + 1 < b5) (h1 : g1 ≠ b5 + 1) (h2 : g2 ≠ b5 + 1) (hd : bad2.data = bad.data)
    (hr : (#[.int .i64 bad.cla, .int .i64 bad.ins, .int .i64 bad.p1, .int .i64 bad.p2, .slice Ab bad.data.length cb, .int .i64 bad.le, .bool bad.long] : Array Value).setIfInBounds i u = #[.int .i64 bad2.cla, .int .i64 bad2.ins, .int .i64 bad2.p1, .int .i64 bad2.p2, .slice Ab bad2.data.length cb, .int .i64 bad2.le, .bool bad2.long]) :
    Oy w (W.setCell ⟨b5 + 1, i, none⟩ u) b5 g1 g2 SO XO Y bad2 A5 c5 Ab cb S1 S2 := by
  have hk : Kb (b5 + 1) W (W.setCell ⟨b5 + 1, i, none⟩ u) := (Kb.refl _ _).set i u
  have hcc := cm_cells bad.cla bad.ins bad.p1 bad.p2 Ab bad.data.length cb bad.le bad.long
  have hrb := heap_setCell_same _ (b5 + 1) i _ _ u h.rb
  rw [hr] at hrb
  refine ⟨h.b.trans (hk.below (by omega) h.b.size), (hk.block _ (blk_lt h.rs) (by omega)).trans h.rs, (hk.block _ (blk_lt h.rx) (by omega)).trans h.rx, (hk.block _ (blk_lt h.rw) (by omega)).trans h.rw, hrb, sl_set h.rb hcc h.sw i u, ?_, h.c1.keepb h.rb hcc h1 hk, h.c2.keepb h.rb hcc h2 hk⟩
  rw [hd]
  exact sl_set h.rb hcc h.sb i u
end

/-! ### Bits -/
theorem i64_xor_nat (a b : Nat) (ha : a < 4294967296) (hb : b < 4294967296) : bits .xor .i64 (a : Int) (b : Int) = ((a ^^^ b : Nat) : Int) := by
  have hx : a ^^^ b < 2 ^ 32 := Nat.xor_lt_two_pow (by omega) (by omega)
  show IntKind.i64.wrap ((BitVec.ofInt 64 (a : Int) ^^^ BitVec.ofInt 64 (b : Int)).toNat : Int) = _
  rw [BitVec.toNat_xor, ofInt_u64 a (by omega), ofInt_u64 b (by omega)]
  exact IntWalk.i64_in _ (by omega)
def xorOk (p k : Nat) : Bool := decide ((p ^^^ 2 ^ k) % 256 ≠ p % 256)
theorem xor_all : (List.range 256).all (fun p => (List.range 8).all (fun k => xorOk p k)) = true := by decide +kernel
theorem xor_byte {p k : Nat} (hp : p < 256) (hk : k < 8) : (p ^^^ 2 ^ k) % 256 ≠ p % 256 := by
  have := List.all_eq_true.1 (List.all_eq_true.1 xor_all p (List.mem_range.2 hp)) k (List.mem_range.2 hk)
  exact of_decide_eq_true this
theorem pow16 {k : Nat} (hk : k < 16) : IntKind.i64.wrap ((2 : Int) ^ k) = ((2 ^ k : Nat) : Int) := by
  have : ((2 : Int) ^ k) = ((2 ^ k : Nat) : Int) := by rw [Int.natCast_pow]; rfl
  rw [this]
  have h2 : 2 ^ k < 2 ^ 16 := Nat.pow_lt_pow_right (by omega) hk
  generalize (2 ^ k : Nat) = q at *
  exact IntWalk.i64_in _ (by omega)
/-- A bit of a byte of the head. -/
theorem head_byte {p : Int} {k : Nat} (hp : 0 ≤ p ∧ p ≤ 255) (hk : k < 8) : byI (bits .xor .i64 p (IntKind.i64.wrap ((2 : Int) ^ k))) ≠ byI p := by
  obtain ⟨n, rfl⟩ : ∃ n : Nat, p = (n : Int) := ⟨p.toNat, by omega⟩
  have h2 : 2 ^ k < 2 ^ 16 := Nat.pow_lt_pow_right (by omega) (by omega)
  rw [pow16 (by omega), i64_xor_nat n (2 ^ k) (by omega) (Nat.lt_trans h2 (by decide))]
  intro e
  have e1 := congrArg (fun u : UInt8 => (u.toNat : Int)) e
  simp only [byI_toNat] at e1
  have := xor_byte (p := n) (k := k) (by omega) hk
  omega



theorem rm_body (S : Ch) (sw : Int) (b : List UInt8) (j : Nat) (v : UInt8) (h8 : S.cv.length = 8) (hj : j < b.length) (h : b[j]? ≠ some v) : rmF S sw (b.set j v) ≠ rmF S sw b := by
  unfold rmF
  rw [← List.set_append_left j v hj]
  refine macL_set _ _ _ _ _ h8 (by rw [List.length_append]; omega) ?_
  rw [List.getElem?_append_left hj]
  exact h
theorem ofNat_ne {a b : Nat} (h : a % 256 ≠ b % 256) : UInt8.ofNat a ≠ UInt8.ofNat b := by
  intro e
  have := congrArg UInt8.toNat e
  rw [UInt8.toNat_ofNat', UInt8.toNat_ofNat'] at this
  exact h this
theorem ofNat_eq {a b : Nat} (h : a % 256 = b % 256) : UInt8.ofNat a = UInt8.ofNat b := by
  apply UInt8.toNat_inj.1
  rw [UInt8.toNat_ofNat', UInt8.toNat_ofNat']
  exact h
theorem putL2 (n : Nat) : putL n 2 = [UInt8.ofNat (n / 256), UInt8.ofNat n] := by
  show [UInt8.ofNat (n / 256 ^ 1), UInt8.ofNat (n / 256 ^ 0)] = _
  simp
theorem rm_sw (S : Ch) (N q : Nat) (b : List UInt8) (h8 : S.cv.length = 8) (hN : N < 65536) (hq : q < 16) : rmF S ((N ^^^ 2 ^ q : Nat) : Int) b ≠ rmF S (N : Int) b := by
  unfold rmF
  rw [Int.toNat_natCast, Int.toNat_natCast, putL2, putL2]
  have hd : (N ^^^ 2 ^ q) / 2 ^ 8 = N / 2 ^ 8 ^^^ 2 ^ q / 2 ^ 8 := Nat.xor_div_two_pow
  have hm : (N ^^^ 2 ^ q) % 2 ^ 8 = (N % 2 ^ 8) ^^^ (2 ^ q % 2 ^ 8) := Nat.xor_mod_two_pow
  rw [show (2 : Nat) ^ 8 = 256 from rfl] at hd hm
  by_cases h : q < 8
  · have h1 : 2 ^ q / 256 = 0 := Nat.div_eq_of_lt (Nat.lt_of_lt_of_le (Nat.pow_lt_pow_right (by omega) h) (by decide))
    have h2 : 2 ^ q % 256 = 2 ^ q := Nat.mod_eq_of_lt (Nat.lt_of_lt_of_le (Nat.pow_lt_pow_right (by omega) h) (by decide))
    rw [h1, Nat.xor_zero] at hd
    rw [h2] at hm
    have hx := xor_byte (p := N % 256) (k := q) (Nat.mod_lt _ (by omega)) h
    rw [hd]
    have e : b ++ [UInt8.ofNat (N / 256), UInt8.ofNat (N ^^^ 2 ^ q)] = (b ++ [UInt8.ofNat (N / 256), UInt8.ofNat N]).set (b.length + 1) (UInt8.ofNat (N ^^^ 2 ^ q)) := by
      rw [List.set_append_right _ _ (by omega), Nat.add_sub_cancel_left]
      rfl
    rw [e]
    refine macL_set _ _ _ _ _ h8 (by simp) ?_
    rw [List.getElem?_append_right (by omega), Nat.add_sub_cancel_left]
    show some (UInt8.ofNat N) ≠ _
    intro e2
    injection e2 with e2
    refine ofNat_ne (a := N) (b := N ^^^ 2 ^ q) ?_ e2
    generalize N ^^^ 2 ^ q = x at *
    generalize N % 256 ^^^ 2 ^ q = y at *
    omega
  · have h1 : 2 ^ q / 256 = 2 ^ (q - 8) := by
      have : 2 ^ q = 2 ^ (q - 8) * 256 := by rw [show (256 : Nat) = 2 ^ 8 from rfl, ← Nat.pow_add]; congr 1; omega
      rw [this, Nat.mul_div_cancel _ (by decide)]
    have h2 : 2 ^ q % 256 = 0 := by
      have : 2 ^ q = 2 ^ (q - 8) * 256 := by rw [show (256 : Nat) = 2 ^ 8 from rfl, ← Nat.pow_add]; congr 1; omega
      rw [this, Nat.mul_mod_left]
    rw [h1] at hd
    rw [h2, Nat.xor_zero] at hm
    have hx := xor_byte (p := N / 256) (k := q - 8) (by omega) (by omega)
    have el : UInt8.ofNat (N ^^^ 2 ^ q) = UInt8.ofNat N := ofNat_eq hm
    rw [el, hd]
    have e : b ++ [UInt8.ofNat (N / 256 ^^^ 2 ^ (q - 8)), UInt8.ofNat N] = (b ++ [UInt8.ofNat (N / 256), UInt8.ofNat N]).set b.length (UInt8.ofNat (N / 256 ^^^ 2 ^ (q - 8))) := by
      rw [List.set_append_right _ _ (Nat.le_refl _), Nat.sub_self]
      rfl
    rw [e]
    refine macL_set _ _ _ _ _ h8 (by simp) ?_
    rw [List.getElem?_append_right (Nat.le_refl _), Nat.sub_self]
    show some (UInt8.ofNat (N / 256)) ≠ _
    intro e2
    injection e2 with e2
    exact ofNat_ne (fun e => hx e.symm) e2
/-- Open of a response with a wrong MAC: the side is closed. -/
theorem open_wrong {S : Ch} {n : Nat} (o : Okc S n) (hL : hasB S.lvl 16 = true) {r : Rs} (hE : ckE S r = 0) (h8 : 8 ≤ r.data.length) (hl : r.data.length ≤ 2000) (hM : r.data.drop (r.data.length - 8) ≠ rmF S r.sw (r.data.take (r.data.length - 8)))
    (g : Nat) (A : Option Addr) (k : Nat) (W : World) (h : CH W g S) (ht : ET W) (hd : SL W W.heap.size (.slice A r.data.length k) r.data) :
    Calls Tryd.prog 15 #[.pointer (some ⟨g, 0, none⟩), r.val (.slice A r.data.length k)] W fun e w' => e = .returned (.tuple #[(⟨[], 0⟩ : Rs).val (.slice none 0 0), .int .i64 17]) ∧ CH w' g S.shut ∧ Kb g W w' := by
  obtain ⟨_, N, hN, hN6⟩ := ckE_zero hE
  exact pOpen_bad g S r 17 A r.data.length k W h o.cv ht (by decide) (by decide) (fun V hV => popen_wrong g S r A k N V (h.below hV) hN hN6 hE hL o.rmac o.cv (hd.on hV) h8 hl hM)
/-- A byte of the data is another one. -/
theorem rbad_data {S : Ch} {n : Nat} (o : Okc S n) (r : Rs) (j : Nat) (v : UInt8) (hj : j < (seY S r n).data.length) (h : (seY S r n).data[j]? ≠ some v) :
    ((seY S r n).data.set j v).drop (((seY S r n).data.set j v).length - 8) ≠ rmF S r.sw (((seY S r n).data.set j v).take (((seY S r n).data.set j v).length - 8)) := by
  have h1 := seY_len S r n
  have h2 := seY_take S r n
  have h3 := seY_drop S r n
  rw [List.length_set]
  generalize (seY S r n).data = D at *
  generalize seB S r n = B at *
  rw [h1, Nat.add_sub_cancel] at h2 h3 ⊢
  by_cases q : j < B.length
  · have e1 : (D.set j v).drop B.length = D.drop B.length := by rw [List.drop_set_of_lt q]
    have e2 : (D.set j v).take B.length = B.set j v := by rw [List.take_set, h2]
    rw [e1, e2, h3]
    refine (rm_body S _ _ j v o.cv q ?_).symm
    rw [← h2, List.getElem?_take, if_pos q]
    exact h
  · have e2 : (D.set j v).take B.length = B := by rw [List.take_set_of_le (by omega), h2]
    rw [e2, ← h3]
    intro e
    have := congrArg (fun l : List UInt8 => l[j - B.length]?) e
    simp only [List.getElem?_drop] at this
    rw [show B.length + (j - B.length) = j by omega, List.getElem?_set_self hj] at this
    exact h this.symm
/-- The status word is another one. -/
theorem rbad_sw {S : Ch} {n : Nat} (o : Okc S n) (r : Rs) (N q : Nat) (hN : r.sw = (N : Int)) (hN6 : N < 65536) (hq : q < 16) :
    (seY S r n).data.drop ((seY S r n).data.length - 8) ≠ rmF S ((N ^^^ 2 ^ q : Nat) : Int) ((seY S r n).data.take ((seY S r n).data.length - 8)) := by
  rw [seY_take, seY_drop, hN]
  exact (rm_sw S N q _ o.cv hN6 hq).symm
/-- The response's box with its data, and the terminal's side. -/
structure Oz (w W : World) (g1 : Nat) (XO : Obj) (br : Nat) (r : Rs) (A : Option Addr) (c : Nat) (S : Ch) : Prop where
  b : Below w.heap.size w W
  rx : W.heap[w.heap.size + 1]? = some XO
  rr : W.heap[br]? = some (.cells #[.slice A r.data.length c, .int .i64 r.sw] 32 (0, 0))
  sr : SL W W.heap.size (.slice A r.data.length c) r.data
  c1 : CH W g1 S
section
variable {w W W2 : World} {g1 br : Nat} {XO : Obj} {r : Rs} {A : Option Addr} {c : Nat} {S S2 : Ch}
theorem Oz.on (h : Oz w W g1 XO br r A c S) (hb : Below W.heap.size W W2) : Oz w W2 g1 XO br r A c S :=
  ⟨h.b.trans (hb.mono h.b.size), (hb.block _ (blk_lt h.rx)).trans h.rx, (hb.block _ (blk_lt h.rr)).trans h.rr, h.sr.on hb, h.c1.below hb⟩
theorem Oz.al (h : Oz w W g1 XO br r A c S) (o : Obj) : Oz w (W.alloc o) g1 XO br r A c S := h.on (alloc_below W o)
theorem Oz.dr (h : Oz w W g1 XO br r A c S) : Oz w W.drew g1 XO br r A c S := h.on (Below.refl _ _).drew
theorem Oz.k1 (h : Oz w W g1 XO br r A c S) (hk : Kb g1 W W2) (hc : CH W2 g1 S2) (h0 : w.heap.size + 1 < g1) (h1 : br ≠ g1) : Oz w W2 g1 XO br r A c S2 :=
  ⟨h.b.trans (hk.below (by omega) h.b.size), (hk.block _ (blk_lt h.rx) (by omega)).trans h.rx, (hk.block _ (blk_lt h.rr) h1).trans h.rr, ((h.c1.off h.sr (Nat.le_refl _)).kb hk).sl, hc⟩
theorem Oz.st (h : Oz w W g1 XO br r A c S) (sw : Int) (h0 : w.heap.size + 1 < br) (h1 : g1 ≠ br) : Oz w (W.setCell ⟨br, 1, none⟩ (.int .i64 sw)) g1 XO br ⟨r.data, sw⟩ A c S := by
  have hk : Kb br W (W.setCell ⟨br, 1, none⟩ (.int .i64 sw)) := (Kb.refl _ _).set 1 _
  have hcc := rs_cells A r.data.length c r.sw
  exact ⟨h.b.trans (hk.below (by omega) h.b.size), (hk.block _ (blk_lt h.rx) (by omega)).trans h.rx, heap_setCell_same _ br 1 _ _ (.int .i64 sw) h.rr, sl_set h.rr hcc h.sr 1 _, h.c1.keepb h.rr hcc h1 hk⟩
end



def u8Ok (p k : Nat) : Bool := decide (bits .xor .u8 (p : Int) (IntKind.u8.wrap ((2 : Int) ^ k)) = ((UInt8.ofNat (p ^^^ 2 ^ k)).toNat : Int)) && decide ((p ^^^ 2 ^ k) % 256 ≠ p % 256)
theorem u8_all : (List.range 256).all (fun p => (List.range 8).all (fun k => u8Ok p k)) = true := by decide +kernel
/-- The byte with one bit changed, as a byte. -/
theorem u8_bit (y : UInt8) {k : Nat} (hk : k < 8) : ∃ v : UInt8, bits .xor .u8 (y.toNat : Int) (IntKind.u8.wrap ((2 : Int) ^ k)) = (v.toNat : Int) ∧ v ≠ y := by
  have hy : y.toNat < 256 := y.toNat_lt
  have := List.all_eq_true.1 (List.all_eq_true.1 u8_all y.toNat (List.mem_range.2 hy)) k (List.mem_range.2 hk)
  unfold u8Ok at this
  rw [Bool.and_eq_true, decide_eq_true_eq, decide_eq_true_eq] at this
  refine ⟨UInt8.ofNat (y.toNat ^^^ 2 ^ k), this.1, fun e => this.2 ?_⟩
  have h1 := congrArg UInt8.toNat e
  rw [UInt8.toNat_ofNat'] at h1
  omega
theorem OB.aside {w : World} {base g n c b i : Nat} {u : Value} {l : List UInt8} (h : OB w base (.slice (some ⟨g, 0, none⟩) n c) l) (hne : g ≠ b) : OB (w.setCell ⟨b, i, none⟩ u) base (.slice (some ⟨g, 0, none⟩) n c) l := by
  obtain ⟨h1, h2⟩ := h
  refine ⟨h1, ?_⟩
  rcases h2 with h2 | ⟨g', cap, cur, hv, hg, hh, r⟩
  · exact .inl h2
  · refine .inr ⟨g', cap, cur, hv, hg, ?_, r⟩
    injection hv with e1 e2 e3
    injection e1 with e1
    injection e1 with e1 e4
    subst e1
    exact (Below.heap_setCell _ _ _ _ (by show g ≠ b; exact hne)).trans hh

end Go.Proofs.YtdalcldilmmgmaaDoor
