/-
  The reference's block cipher.
-/
import Derived.Test.YtndkkkkfgihemaaCie
import Derived.Test.YtndkkkkfgihemaaPad
import Derived.Test.YtndkkkkfgihemaaJoi
namespace Go.Proofs.Ytndkkkkfgihemaa
set_option linter.unusedVariables false
set_option linter.unusedSimpArgs false
open Go.RowKit

theorem Rd.drop {w : World} {B : Nat} {b o : Nat} {l : List UInt8} (h : Rd w B (some ⟨b, o, none⟩) l) (m : Nat) (hm : m < l.length) : Rd w B (some ⟨b, o + m, none⟩) (l.drop m) := fun _ => by
  obtain ⟨b', o', hA, hb, hc⟩ := h (by omega)
  simp only [Option.some.injEq, Addr.mk.injEq, and_true] at hA
  obtain ⟨rfl, rfl⟩ := hA
  refine ⟨b, o + m, rfl, hb, fun k hk => ?_⟩
  rw [List.length_drop] at hk
  rw [Nat.add_assoc, hc (m + k) (by omega)]
  simp [List.getD]
/-- Four bytes of a slice, as a slice. -/
theorem Rd.four {w : World} {B : Nat} {b o : Nat} {l : List UInt8} (h : Rd w B (some ⟨b, o, none⟩) l) (m c : Nat) (hm : m + 4 ≤ l.length) (hc : l.length ≤ c) (hx : c ≤ maxLen) : SL w B (.slice (some ⟨b, o + m, none⟩) 4 (c - m)) ((l.drop m).take 4) :=
  ⟨some ⟨b, o + m, none⟩, c - m, by rw [List.length_take, List.length_drop, Nat.min_eq_left (by omega)], by simp; omega, by omega, Rd.take (Rd.drop h m (by omega)) 4⟩

theorem rk_walk2 (l : List UInt8) (k : Nat) (hk : k < 16) : (((wd l (k % 4)).toNat : Int) + (k : Int) * 2654435769 % 4294967296) % 4294967296 = ((rk l k).toNat : Int) := by
  rw [← rk_walk l k hk]
  omega
theorem SL.drewN {w : World} {B : Nat} {v : Value} {l : List UInt8} (h : SL w B v l) (n : Nat) : SL (w.drewN n) B v l := h
/-- A contract that only draws, at a world that has drawn. -/
theorem quietN {f : FuncId} {args : Array Value} {w : World} {v : Value} (h : ∀ W, (∃ n, W = w.drewN n) → Calls Try.prog f args W fun e w' => e = .returned v ∧ ∃ n, w' = W.drewN n) (n : Nat) : Calls Try.prog f args (w.drewN n) fun e w' => e = .returned v ∧ ∃ m, w' = w.drewN m :=
  (h _ ⟨n, rfl⟩).mono fun e w' ⟨he, m, hm⟩ => ⟨he, n + m, by rw [hm, World.drewN_drewN]⟩

set_option maxRecDepth 100000 in
set_option maxHeartbeats 1600000 in
theorem rrou_any (l : List UInt8) (i : Nat) (v : Value) (w : World) (B : Nat) (hl : SL w B v l) (h : l.length = 16) (hi : i < 16) :
    Calls Try.prog 63 #[v, .int .i64 i] w fun e w' => e = .returned (.int .u32 ((rk l i).toNat : Int)) ∧ ∃ n, w' = w.drewN n := by
  obtain ⟨A1, c1, rfl, h11, h12, h13⟩ := hl
  obtain ⟨b1, o1, rfl, hb1, hc1⟩ := h13 (by omega)
  have h4 := h13.four (4 * (i % 4)) c1 (by omega) h11 h12
  have HN : Hid (Calls Try.prog 61 #[.slice (some ⟨b1, o1 + 4 * (i % 4), none⟩) 4 (c1 - 4 * (i % 4))] w fun e w' => e = .returned (.int .u32 ((wd l (i % 4)).toNat : Int)) ∧ ∃ n, w' = w.drewN n) :=
    rnum_any _ _ w B h4 (by simp; omega)
  have HR := Lib.hid (rk_walk2 l i hi)
  have hx := u32_lt (wd l (i % 4))
  generalize (wd l (i % 4)).toNat = x at *
  have c16 : 16 ≤ c1 := by omega
  obtain ⟨m, hm⟩ : ∃ m : Nat, m = i % 4 := ⟨_, rfl⟩
  have e4 : (i : Int) % 4 = (m : Int) := by omega
  rw [← hm] at HN
  have hm4 : m < 4 := by omega
  clear hc1 h13 h4 h hm
  unfold maxLen at h12
  go_enter Try.func63, Try.ntmps63
  go_wp2_with (go_at_call 61; refine HN.out.mono ?_; rintro e w' ⟨rfl, n, rfl⟩)
  go_ret
  exact ⟨ret_int HR.out, n, rfl⟩

theorem ob_lit8 (q1 q2 : UInt32) (w : World) : OB (w.alloc (Obj.cells
        #[Value.int IntKind.u8 (↑q2.toNat / 16777216), Value.int IntKind.u8 (↑q2.toNat / 65536 % 256),
          Value.int IntKind.u8 (↑q2.toNat / 256 % 256), Value.int IntKind.u8 (↑q2.toNat % 256),
          Value.int IntKind.u8 (↑q1.toNat / 16777216), Value.int IntKind.u8 (↑q1.toNat / 65536 % 256),
          Value.int IntKind.u8 (↑q1.toNat / 256 % 256), Value.int IntKind.u8 (↑q1.toNat % 256)] 5)) w.heap.size (.slice (some ⟨w.heap.size, 0, none⟩) 8 8) (outB (q1, q2)) ∧ Below w.heap.size w (w.alloc (Obj.cells
        #[Value.int IntKind.u8 (↑q2.toNat / 16777216), Value.int IntKind.u8 (↑q2.toNat / 65536 % 256),
          Value.int IntKind.u8 (↑q2.toNat / 256 % 256), Value.int IntKind.u8 (↑q2.toNat % 256),
          Value.int IntKind.u8 (↑q1.toNat / 16777216), Value.int IntKind.u8 (↑q1.toNat / 65536 % 256),
          Value.int IntKind.u8 (↑q1.toNat / 256 % 256), Value.int IntKind.u8 (↑q1.toNat % 256)] 5)) := by
  refine ⟨OB.of_cells (Nat.le_refl _) (outB_length _) (by unfold maxLen; omega) ?_, (Below.refl _ _).alloc (Nat.le_refl _) _⟩
  rw [heap_alloc_new]
  unfold outB
  rw [List.map_append, putL4, putL4]
  rfl
set_option maxRecDepth 100000 in
set_option maxHeartbeats 1600000 in
theorem rrun_ok (k b : List UInt8) (v u : Value) (w : World) (back : Bool) (hk : SL w w.heap.size v k) (hb : SL w w.heap.size u b) (h1 : k.length = 16) (h2 : b.length = 8) :
    Calls Try.prog 40 #[v, u, .bool back] w fun e w' => ∃ v', e = .returned (.tuple #[v', .int .i64 0]) ∧ OB w' w.heap.size v' (if back then decB k b else encB k b) ∧ Below w.heap.size w w' := by
  obtain ⟨A1, c1, rfl, h11, h12, h13⟩ := id hk
  obtain ⟨A2, c2, rfl, h21, h22, h23⟩ := hb
  obtain ⟨b2, o2, rfl, hb2, hc2⟩ := h23 (by omega)
  have q0 := h23.four 0 c2 (by omega) h21 h22
  have q4 := h23.four 4 c2 (by omega) h21 h22
  have HN0 := Lib.hid (quietN (w := w) (fun W ⟨n, hW⟩ => by subst hW; exact rnum_any _ _ (w.drewN n) w.heap.size q0 (by simp; omega)))
  have HN4 := Lib.hid (quietN (w := w) (fun W ⟨n, hW⟩ => by subst hW; exact rnum_any _ _ (w.drewN n) w.heap.size q4 (by simp; omega)))
  change Hid (∀ n, Calls Try.prog 61 #[.slice (some ⟨b2, o2, none⟩) 4 c2] (w.drewN n) fun e w' => e = .returned (.int .u32 ((wd b 0).toNat : Int)) ∧ ∃ m, w' = w.drewN m) at HN0
  change Hid (∀ n, Calls Try.prog 61 #[.slice (some ⟨b2, o2 + 4, none⟩) 4 (c2 - 4)] (w.drewN n) fun e w' => e = .returned (.int .u32 ((wd b 1).toNat : Int)) ∧ ∃ m, w' = w.drewN m) at HN4
  rw [h2] at h21
  unfold maxLen at h22
  rw [h1, h2]
  have HRK := Lib.hid (fun j (hj : j < 16) (wr : World) (hb : Below w.heap.size w wr) => quietN (w := wr) (fun W ⟨n, hW⟩ => by subst hW; exact rrou_any k j _ (wr.drewN n) w.heap.size (hk.below (below_drewN hb n)) h1 hj))
  clear q0 q4 hc2 h23 hk
  obtain ⟨r, hr⟩ : ∃ r, r = if back then decB k b else encB k b := ⟨_, rfl⟩
  rw [← hr]
  have HR : Hid (r = outB (rds (fun i => rk k (if back then 15 - i else i)) 16 (inB b))) := by
    show _ = _
    rw [hr]
    cases back
    · rfl
    · rfl
  clear hr
  rw [h1] at HRK
  have e0 : wd b 0 = (inB b).1 := rfl
  have e1 : wd b 1 = (inB b).2 := rfl
  rw [e0] at HN0
  rw [e1] at HN4
  clear e0 e1 h1 h2 h13 h11
  generalize inB b = p at *
  go_enter Try.func40, Try.ntmps40
  go_wp2
  go_quiet (first | (go_at_call 61; with_reducible exact HN0.out _) | (go_at_call 61; with_reducible exact HN4.out _))
  go_wp2_with fail
  go_loopw [8, 9, 10] (fun x y i wr => ∃ j : Nat, j ≤ 16 ∧ i = .int .i64 j ∧ x = .int .u32 ((rds (fun i => rk k (if back then 15 - i else i)) j p).1.toNat : Int) ∧ y = .int .u32 ((rds (fun i => rk k (if back then 15 - i else i)) j p).2.toNat : Int) ∧ ∃ n, wr = w.drewN n) (fun _ _ i _ => 16 - (intOf i).toNat)
  case atStart => exact ⟨0, by omega, rfl, rfl, rfl, _, rfl⟩
  case round =>
    obtain ⟨j, hj, rfl, rfl, rfl, n, hwr⟩ := hrel
    have hbel : Below w.heap.size w wr := by rw [hwr]; exact drewN_below _ _ n
    have HWR := Lib.hid hwr
    clear hwr
    by_cases hlt : j < 16
    · have HS2 : Hid (rds (fun i => rk k (if back then 15 - i else i)) (j + 1) p = rd (rk k (if back then 15 - j else j)) (rds (fun i => rk k (if back then 15 - i else i)) j p)) := rfl
      generalize rds (fun i => rk k (if back then 15 - i else i)) j p = q at *
      obtain ⟨q1, q2⟩ := q
      have HK := Lib.hid (HRK.out (if back then 15 - j else j) (by cases back <;> simp <;> omega) wr hbel)
      generalize hx : rk k (if back then 15 - j else j) = x at *
      clear hx
      have HM := Lib.hid (quietN (w := wr) (fun W ⟨n, hW⟩ => (rmix_any q2 x W).mono fun e w' h => ⟨h.1, 0, h.2.symm⟩))
      have HX := Lib.hid (u32_xor_nat q1.toNat (f32 q2 x).toNat (u32_lt _) (u32_lt _))
      have HS3 : Hid (rd x (q1, q2) = (q2, q1 ^^^ f32 q2 x)) := rfl
      rw [HS3.out] at HS2
      have l1 := u32_lt q1
      have l2 := u32_lt q2
      have l3 := u32_lt (f32 q2 x)
      generalize f32 q2 x = y at *
      simp only at *
      have e15 : ((15 - j : Nat) : Int) = 15 - (j : Int) := by omega
      cases back
      all_goals
        try simp only [Bool.false_eq_true, if_false, if_true] at HK
        try rw [e15] at HK
        go_wp2_with (first
          | (go_at_call 63; refine (HK.out 0).mono ?_; rintro e w' ⟨rfl, n1, rfl⟩)
          | (go_at_call 62; refine (HM.out _).mono ?_; rintro e w' ⟨rfl, n2, rfl⟩))
        go_roundw
        case rel => exact ⟨j + 1, by omega, by go_num, by (first | rw [HS2.out] | (have hh := HS2.out; simp only [if_true] at hh; rw [hh])), by (first | rw [HS2.out, UInt32.toNat_xor, ← HX.out] | (have hh := HS2.out; simp only [if_true] at hh; rw [hh, UInt32.toNat_xor, ← HX.out])), by rw [HWR.out, World.drewN_drewN]; exact ⟨_, rfl⟩⟩
        case measure => simp [intOf]; omega
    · obtain rfl : j = 16 := by omega
      have HR2 := Lib.hid HR.out
      clear HR
      generalize rds (fun i => rk k (if back then 15 - i else i)) 16 p = q at *
      obtain ⟨q1, q2⟩ := q
      have HHB := Lib.hid ob_lit8
      have hbel2 := HWR.out ▸ drewN_below w.heap.size w n
      have l1 := u32_lt q1
      have l2 := u32_lt q2
      simp only at *
      have HE : Hid (r = outB (q1, q2)) := HR2
      have hob := HHB.out q1 q2 wr
      go_wp2
      go_ret2
      exact ⟨_, rfl, by rw [HE.out]; exact hob.1.more hbel2.size, hbel2.trans (hob.2.mono hbel2.size)⟩
set_option maxRecDepth 100000 in
set_option maxHeartbeats 1600000 in
theorem rrun_err (k b : List UInt8) (v u : Value) (w : World) (back : Bool) (B : Nat) (hk : SL w B v k) (hb : SL w B u b) (h : fitE k b ≠ 0) :
    Calls Try.prog 40 #[v, u, .bool back] w fun e w' => e = .returned (.tuple #[.slice none 0 0, .int .i64 (fitE k b)]) ∧ w' = w := by
  obtain ⟨A1, c1, rfl, h11, h12, h13⟩ := hk
  obtain ⟨A2, c2, rfl, h21, h22, h23⟩ := hb
  clear h13 h23
  by_cases e1 : k.length = 16
  · have n1 : ((k.length : Int) != 16) = false := by simp [e1]
    by_cases e2 : b.length = 8
    · exact absurd (by rw [fitE, if_neg (by simp [e1]), if_neg (by simp [e2])]) h
    · have n2 : ((b.length : Int) != 8) = true := by simp; omega
      have HE : Hid (fitE k b = 1) := by show _ = _; rw [fitE, if_neg (by simp [e1]), if_pos e2]
      rw [HE.out]
      clear e1 e2 h
      go_enter Try.func40, Try.ntmps40
      go_wp2
      go_ret2
      exact ⟨rfl, rfl⟩
  · have n1 : ((k.length : Int) != 16) = true := by simp; omega
    have HE : Hid (fitE k b = 19) := by show _ = _; rw [fitE, if_pos e1]
    rw [HE.out]
    clear e1 h
    go_enter Try.func40, Try.ntmps40
    go_wp2
    go_ret2
    exact ⟨rfl, rfl⟩

/-- What Encrypt and Decrypt give. -/
def encM (k b : List UInt8) : List UInt8 := if fitE k b = 0 then encB k b else []
def decM (k b : List UInt8) : List UInt8 := if fitE k b = 0 then decB k b else []
theorem fit_zero {k b : List UInt8} (h : fitE k b = 0) : k.length = 16 ∧ b.length = 8 := by
  unfold fitE at h
  split at h
  · simp at h
  · split at h
    · simp at h
    · omega
/-- The contract of all four functions. -/
def CiP (r : List UInt8) (E : Int) (w : World) (e : Ending) (w' : World) : Prop := ∃ v', e = .returned (.tuple #[v', .int .i64 E]) ∧ OB w' w.heap.size v' r ∧ Below w.heap.size w w'
theorem penc_any (k b : List UInt8) (v u : Value) (w : World) (hk : SL w w.heap.size v k) (hb : SL w w.heap.size u b) : Calls Try.prog 16 #[v, u] w (CiP (encM k b) (fitE k b) w) := by
  by_cases h : fitE k b = 0
  · obtain ⟨h1, h2⟩ := fit_zero h
    rw [encM, if_pos h, h]
    exact penc_ok k b v u w hk hb h1 h2
  · rw [encM, if_neg h]
    exact (penc_err k b v u w hk hb h).mono fun e w' ⟨he, hw⟩ => ⟨_, he, OB.nil _ _, by rw [hw]; exact Below.refl _ _⟩
theorem pdec_any (k b : List UInt8) (v u : Value) (w : World) (hk : SL w w.heap.size v k) (hb : SL w w.heap.size u b) : Calls Try.prog 18 #[v, u] w (CiP (decM k b) (fitE k b) w) := by
  by_cases h : fitE k b = 0
  · obtain ⟨h1, h2⟩ := fit_zero h
    rw [decM, if_pos h, h]
    exact pdec_ok k b v u w hk hb h1 h2
  · rw [decM, if_neg h]
    exact (pdec_err k b v u w hk hb h).mono fun e w' ⟨he, hw⟩ => ⟨_, he, OB.nil _ _, by rw [hw]; exact Below.refl _ _⟩
theorem rrun_any (k b : List UInt8) (v u : Value) (w : World) (back : Bool) (hk : SL w w.heap.size v k) (hb : SL w w.heap.size u b) : Calls Try.prog 40 #[v, u, .bool back] w (CiP (if back then decM k b else encM k b) (fitE k b) w) := by
  by_cases h : fitE k b = 0
  · obtain ⟨h1, h2⟩ := fit_zero h
    rw [encM, decM, if_pos h, if_pos h, h]
    exact rrun_ok k b v u w back hk hb h1 h2
  · rw [encM, decM, if_neg h, if_neg h]
    exact (rrun_err k b v u w back _ hk hb h).mono fun e w' ⟨he, hw⟩ => ⟨_, he, by cases back <;> exact OB.nil _ _, by rw [hw]; exact Below.refl _ _⟩
theorem renc_any (k b : List UInt8) (v u : Value) (w : World) (hk : SL w w.heap.size v k) (hb : SL w w.heap.size u b) : Calls Try.prog 17 #[v, u] w (CiP (encM k b) (fitE k b) w) := by
  have H := Lib.hid (rrun_any k b v u w false hk hb)
  rw [if_neg (by decide)] at H
  obtain ⟨A1, c1, rfl, h11, h12, h13⟩ := hk
  obtain ⟨A2, c2, rfl, h21, h22, h23⟩ := hb
  generalize encM k b = r at *
  generalize fitE k b = E at *
  clear h13 h23
  go_enter Try.func17, Try.ntmps17
  go_wp2_with (go_at_call 40; refine H.out.mono ?_; rintro e w' ⟨v', rfl, h1, h2⟩)
  go_ret2
  exact ⟨_, rfl, h1, h2⟩
theorem rdec_any (k b : List UInt8) (v u : Value) (w : World) (hk : SL w w.heap.size v k) (hb : SL w w.heap.size u b) : Calls Try.prog 19 #[v, u] w (CiP (decM k b) (fitE k b) w) := by
  have H := Lib.hid (rrun_any k b v u w true hk hb)
  rw [if_pos rfl] at H
  obtain ⟨A1, c1, rfl, h11, h12, h13⟩ := hk
  obtain ⟨A2, c2, rfl, h21, h22, h23⟩ := hb
  generalize decM k b = r at *
  generalize fitE k b = E at *
  clear h13 h23
  go_enter Try.func19, Try.ntmps19
  go_wp2_with (go_at_call 40; refine H.out.mono ?_; rintro e w' ⟨v', rfl, h1, h2⟩)
  go_ret2
  exact ⟨_, rfl, h1, h2⟩
end Go.Proofs.Ytndkkkkfgihemaa
