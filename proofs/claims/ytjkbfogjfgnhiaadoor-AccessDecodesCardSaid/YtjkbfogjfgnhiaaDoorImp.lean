/-
  Lists of security statuses; IndexFunc and ContainsFunc with Implies' closure; Implies, given what least answers.
-/
import Derived.Test.YtjkbfogjfgnhiaaDoorTxc
namespace Go.Proofs.YtjkbfogjfgnhiaaDoor
set_option linter.unusedVariables false
set_option linter.unusedSimpArgs false
open Go.RowKit

def ScAt (w : World) (b o : Nat) (s : Sc) : Prop := w.cell? ⟨b, o, none⟩ = some (.int .i64 s.pins) ∧ w.cell? ⟨b, o + 1, none⟩ = some (.int .i64 s.keys) ∧ w.cell? ⟨b, o + 2, none⟩ = some (.int .i64 s.state) ∧ w.cell? ⟨b, o + 3, none⟩ = some (.int .i64 s.level)
/-- v is a slice of security statuses that reads as l. -/
def ML (w : World) (B : Nat) (v : Value) (l : List Sc) : Prop :=
  ∃ A c, v = .slice A l.length c ∧ l.length ≤ c ∧ c ≤ maxLen ∧ Hid (0 < l.length → ∃ b o, A = some ⟨b, o, none⟩ ∧ b < B ∧ ∀ (k : Nat) (h : k < l.length), ScAt w b (o + k * 4) l[k])
theorem ScAt.keep {w w' : World} {B b o : Nat} {s : Sc} (h : ScAt w b o s) (hb : b < B) (hk : ∀ p : Addr, p.block < B → w'.cell? p = w.cell? p) : ScAt w' b o s :=
  ⟨(hk ⟨b, o, none⟩ hb).trans h.1, (hk ⟨b, o + 1, none⟩ hb).trans h.2.1, (hk ⟨b, o + 2, none⟩ hb).trans h.2.2.1, (hk ⟨b, o + 3, none⟩ hb).trans h.2.2.2⟩
theorem ML.keep {w w' : World} {B B' : Nat} {v : Value} {l : List Sc} (h : ML w B v l) (hB : B ≤ B') (hk : ∀ p : Addr, p.block < B → w'.cell? p = w.cell? p) : ML w' B' v l := by
  obtain ⟨A, c, hv, h1, h2, h3⟩ := h
  refine ⟨A, c, hv, h1, h2, fun hp => ?_⟩
  obtain ⟨b, o, hA, hb, hts⟩ := h3.out hp
  exact ⟨b, o, hA, by omega, fun k hk' => (hts k hk').keep hb hk⟩
theorem ML.on {w w' : World} {v : Value} {l : List Sc} (h : ML w w.heap.size v l) (hb : Below w.heap.size w w') : ML w' w'.heap.size v l := h.keep hb.size fun _ hp => hb.cell hp

def idxM (f : Sc → Bool) (l : List Sc) : Int := if l.any f then (l.findIdx f : Int) else -1
def Sc.zero : Sc := ⟨0, 0, 0, 0⟩
theorem gD_sc (l : List Sc) (k : Nat) (h : k < l.length) : l.getD k Sc.zero = l[k] := by simp [List.getD, List.getElem?_eq_getElem h]
theorem idxM_at (f : Sc → Bool) (l : List Sc) (k : Nat) (hk : k < l.length) (h : f l[k] = true) (hb : ∀ j, j < k → f (l.getD j Sc.zero) = false) : idxM f l = (k : Int) := by
  have hm : l.any f = true := List.any_eq_true.2 ⟨l[k], List.getElem_mem hk, h⟩
  rw [idxM, if_pos hm]
  have h1 : l.findIdx f ≤ k := by
    rcases Nat.lt_or_ge k (l.findIdx f) with h' | h'
    · exact absurd h (by simpa using List.not_of_lt_findIdx h')
    · exact h'
  have h2 : ¬ l.findIdx f < k := fun h' => by
    have hlt : l.findIdx f < l.length := by omega
    have := hb _ h'
    rw [gD_sc l _ hlt] at this
    have e := List.findIdx_getElem (p := f) (w := hlt)
    rw [this] at e
    cases e
  congr 1
  omega
theorem idxM_no (f : Sc → Bool) (l : List Sc) (h : ∀ j, j < l.length → f (l.getD j Sc.zero) = false) : idxM f l = -1 := by
  rw [idxM, if_neg]
  intro hm
  obtain ⟨x, hx, e⟩ := List.any_eq_true.1 hm
  obtain ⟨j, hj, rfl⟩ := List.getElem_of_mem hx
  have := h j hj
  rw [gD_sc l j hj, e] at this
  cases this
theorem no_snocM {f : Sc → Bool} {l : List Sc} {k : Nat} (hl : k < l.length) (h : ∀ j, j < k → f (l.getD j Sc.zero) = false) (hk : f l[k] = false) : ∀ j, j < k + 1 → f (l.getD j Sc.zero) = false := by
  intro j hj
  rcases Nat.lt_or_ge j k with h' | h'
  · exact h j h'
  · obtain rfl : j = k := by omega
    rw [gD_sc l j hl]
    exact hk
theorem idxM_any (f : Sc → Bool) (l : List Sc) : decide (0 ≤ idxM f l) = l.any f := by
  unfold idxM
  by_cases h : l.any f = true
  · rw [if_pos h, h]; exact decide_eq_true (by omega)
  · rw [if_neg h]; rw [Bool.not_eq_true] at h; rw [h]; rfl

/-- The condition t, boxed in block b. -/
def CB (w : World) (b : Nat) (t : Cn) : Prop := b < w.heap.size ∧ ∃ A cap, w.heap[b]? = some (bx t.op t.n A t.kids.length cap) ∧ KL w w.heap.size (.slice A t.kids.length cap) t.kids
theorem CB.on {w w' : World} {b : Nat} {t : Cn} (h : CB w b t) (hb : Below w.heap.size w w') : CB w' b t := by
  obtain ⟨h1, A, cap, h2, h3⟩ := h
  exact ⟨Nat.lt_of_lt_of_le h1 hb.size, A, cap, (hb.block b h1).trans h2, h3.on hb⟩

set_option maxRecDepth 100000 in
theorem pki_any (t : Cn) (s : Sc) (b : Nat) (w : World) (hok : t.ok = true) (hk : CB w b t) :
    Calls Tryd.prog 51 #[.agg #[.int .i64 s.pins, .int .i64 s.keys, .int .i64 s.state, .int .i64 s.level], .pointer (some ⟨b, 0, none⟩)] w fun e w' => e = .returned (.bool (!t.sat s)) ∧ Below w.heap.size w w' := by
  have ha := alloc_below w (Obj.cells #[Value.int IntKind.i64 s.pins, Value.int IntKind.i64 s.keys, Value.int IntKind.i64 s.state, Value.int IntKind.i64 s.level] 31)
  obtain ⟨_, A, cap, hs1, hkk⟩ := hk.on ha
  have g0 := cell_of_row _ _ 0 _ _ _ hs1
  have g1 := cell_of_row _ _ 1 _ _ _ hs1
  have g2 := cell_of_row _ _ 2 _ _ _ hs1
  have HC := Lib.hid (hold_any (t.dep + 1) t (by omega) s _ _ hok hkk)
  clear ha hs1 hkk hk
  generalize t.sat s = X at *
  go_enter Tryd.func51, Tryd.ntmps51
  go_wp2_with fail
  refine HC.out.mono ?_
  rintro e w1 ⟨rfl, hb1⟩
  go_wp2_with fail
  go_ret
  exact ⟨rfl, after_alloc hb1⟩

set_option maxRecDepth 100000 in
set_option maxHeartbeats 1600000 in
theorem pixm_any (l : List Sc) (t : Cn) (sb : Nat) (v : Value) (w : World) (hok : t.ok = true) (h : ML w w.heap.size v l) (hs : CB w sb t) :
    Calls Tryd.prog 73 #[v, .func (.func 51) #[] #[.pointer (some ⟨sb, 0, none⟩)]] w fun e w' => e = .returned (.int .i64 (idxM (fun s => !t.sat s) l)) ∧ Below w.heap.size w w' := by
  obtain ⟨A, c, rfl, h1, h2, h3⟩ := h
  unfold maxLen at h2
  have HS := Lib.hid hs
  have HOK := Lib.hid hok
  clear hs hok
  go_enter Tryd.func73, Tryd.ntmps73
  go_wp2
  go_loopw [8] (fun i wr => ∃ k : Nat, k ≤ l.length ∧ i = .int .i64 k ∧ Hid (∀ j, j < k → (fun s => !t.sat s) (l.getD j Sc.zero) = false) ∧ Hid (Below w.heap.size w wr)) (fun i _ => l.length - (intOf i).toNat)
  case atStart => exact ⟨0, Nat.zero_le _, rfl, fun j hj => absurd hj (by omega), Below.refl _ _⟩
  case round =>
    obtain ⟨k, hk, rfl, HE, HB⟩ := hrel
    by_cases hlt : k < l.length
    · obtain ⟨b, o, rfl, hb, hts⟩ := h3.out (by omega)
      have hta := (hts k hlt).keep hb (fun p hp => HB.out.cell hp)
      have HAT := Lib.hid (idxM_at (fun s => !t.sat s) l k hlt)
      have HSN := Lib.hid (@no_snocM (fun s => !t.sat s) l k hlt HE.out)
      generalize l[k] = s at *
      obtain ⟨g0, g1, g2, g3⟩ := hta
      have HQ := Lib.hid (pki_any t s sb wr HOK.out (HS.out.on HB.out))
      clear hts
      generalize (!t.sat s) = X at HAT HSN HQ
      go_wp2_with fail
      refine HQ.out.mono ?_
      rintro e w2 ⟨rfl, hb2⟩
      have HB2 := Lib.hid (HB.out.trans (hb2.mono HB.out.size))
      clear hb2
      cases X with
      | true =>
        go_wp2_with fail
        go_ret
        exact ⟨ret_int (HAT.out (by first | exact trivial | rfl) HE.out).symm, HB2.out⟩
      | false =>
        go_wp2_with fail
        go_roundw
        case rel => exact ⟨k + 1, by omega, by go_num, HSN.out (by first | exact trivial | rfl), HB2⟩
        case measure => simp [intOf]; omega
    · have hkk : k = l.length := by omega
      subst hkk
      go_wp2
      go_ret
      exact ⟨ret_int (idxM_no (fun s => !t.sat s) l HE.out).symm, HB.out⟩

set_option maxRecDepth 100000 in
theorem pcom_any (l : List Sc) (t : Cn) (sb : Nat) (v : Value) (w : World) (hok : t.ok = true) (h : ML w w.heap.size v l) (hs : CB w sb t) :
    Calls Tryd.prog 49 #[v, .func (.func 51) #[] #[.pointer (some ⟨sb, 0, none⟩)]] w fun e w' => e = .returned (.bool (l.any fun s => !t.sat s)) ∧ Below w.heap.size w w' := by
  have HX := Lib.hid (pixm_any l t sb v w hok h hs)
  have HE := Lib.hid (idxM_any (fun s => !t.sat s) l)
  obtain ⟨A, c, rfl, h1, h2, h3⟩ := h
  clear hok hs
  generalize idxM (fun s => !t.sat s) l = i at *
  go_enter Tryd.func49, Tryd.ntmps49
  go_wp2_with fail
  refine HX.out.mono ?_
  rintro e w1 ⟨rfl, hb1⟩
  go_wp2_with fail
  go_ret
  exact ⟨ret_bool HE.out, hb1⟩

def LeaP (L : List Sc) (w : World) (e : Ending) (w' : World) : Prop := ∃ A c, e = .returned (.slice A L.length c) ∧ ML w' w'.heap.size (.slice A L.length c) L ∧ Below w.heap.size w w'
/-- What least answers for a condition, given as a list. -/
def LeaC (c : Cn) (L : List Sc) : Prop := ∀ (v : Value) (w : World), KL w w.heap.size v c.kids → Calls Tryd.prog 50 #[.agg #[.int .i64 c.op, .int .i64 c.n, v]] w (LeaP L w)

set_option maxRecDepth 100000 in
set_option maxHeartbeats 3200000 in
theorem imp_any (a b : Cn) (L : List Sc) (hL : LeaC a L) (va vb : Value) (w : World) (ha : KL w w.heap.size va a.kids) (hb : KL w w.heap.size vb b.kids) (hT : Tb w) (hca : chkC 1 3 a = 0) (hcb : chkC 1 3 b = 0) :
    Calls Tryd.prog 27 #[.agg #[.int .i64 a.op, .int .i64 a.n, va], .agg #[.int .i64 b.op, .int .i64 b.n, vb]] w fun e w' => e = .returned (.bool (!(L.any fun s => !b.sat s))) ∧ Below w.heap.size w w' := by
  obtain ⟨X, hX⟩ : ∃ X, X = (L.any fun s => !b.sat s) := ⟨_, rfl⟩
  have HX := Lib.hid hX
  clear hX
  have hla := chk_len hca
  have hlb := chk_len hcb
  have hokb := chk_ok hcb
  obtain ⟨A1, c1, rfl, _, _, _⟩ := id ha
  obtain ⟨A2, c2, rfl, _, _, _⟩ := id hb
  have h2 := alloc2_below w (bx a.op a.n A1 a.kids.length c1) (bx b.op b.n A2 b.kids.length c2)
  have hn0 := heap_alloc_new (w.alloc (bx a.op a.n A1 a.kids.length c1)) (bx b.op b.n A2 b.kids.length c2)
  rw [alloc_size] at hn0
  have hn1 := (Below.heap_alloc (w.alloc (bx a.op a.n A1 a.kids.length c1)) (bx b.op b.n A2 b.kids.length c2) w.heap.size (by rw [alloc_size]; omega)).trans (heap_alloc_new w (bx a.op a.n A1 a.kids.length c1))
  have hsz : ((w.alloc (bx a.op a.n A1 a.kids.length c1)).alloc (bx b.op b.n A2 b.kids.length c2)).heap.size = w.heap.size + 2 := by rw [alloc_size, alloc_size]
  have HQ1 := Lib.hid (pchk_any a _ _ (ha.on h2) (hT.on h2) (by omega))
  rw [hca] at HQ1
  have hcbb : CB ((w.alloc (bx a.op a.n A1 a.kids.length c1)).alloc (bx b.op b.n A2 b.kids.length c2)) (w.heap.size + 1) b := ⟨by rw [hsz]; omega, A2, c2, hn0, hb.on h2⟩
  have HCB := Lib.hid hcbb
  have HA2 := Lib.hid h2
  have HN0 := Lib.hid hn0
  have HN1 := Lib.hid hn1
  have HKA := Lib.hid (ha.on h2)
  have HKB := Lib.hid (hb.on h2)
  have HT := Lib.hid (hT.on h2)
  have HLT0 := Lib.hid (show w.heap.size < ((w.alloc (bx a.op a.n A1 a.kids.length c1)).alloc (bx b.op b.n A2 b.kids.length c2)).heap.size by rw [hsz]; omega)
  have HLT1 := Lib.hid (show w.heap.size + 1 < ((w.alloc (bx a.op a.n A1 a.kids.length c1)).alloc (bx b.op b.n A2 b.kids.length c2)).heap.size by rw [hsz]; omega)
  have HLL := Lib.hid hL
  have HCC := Lib.hid hcb
  have HOKB := Lib.hid hokb
  have HLB := Lib.hid hlb.1
  clear h2 hn0 hn1 hsz ha hb hT hca hcb hcbb hL hokb
  go_enter Tryd.func27, Tryd.ntmps27
  go_wp2_with fail
  refine HQ1.out.mono ?_
  rintro e w1 ⟨rfl, hb1⟩
  have k0 := (hb1.block (w.heap.size + 1) HLT1.out).trans HN0.out
  have k1 := (hb1.block w.heap.size HLT0.out).trans HN1.out
  have p0 := cell_of_row _ _ 0 _ _ _ k0
  have p1 := cell_of_row _ _ 1 _ _ _ k0
  have p2 := cell_of_row _ _ 2 _ _ _ k0
  have HQ2 := Lib.hid (pchk_any b _ w1 (HKB.out.on hb1) (HT.out.on hb1) (by have := HLB.out; omega))
  rw [HCC.out] at HQ2
  have HB1 := Lib.hid hb1
  have K1 := Lib.hid k1
  have hs1 : w.heap.size < w1.heap.size := Nat.lt_of_lt_of_le HLT0.out hb1.size
  clear hb1 k0 k1
  go_wp2_with fail
  refine HQ2.out.mono ?_
  rintro e w2 ⟨rfl, hb2⟩
  have k2 := (hb2.block w.heap.size hs1).trans K1.out
  have q0 := cell_of_row _ _ 0 _ _ _ k2
  have q1 := cell_of_row _ _ 1 _ _ _ k2
  have q2 := cell_of_row _ _ 2 _ _ _ k2
  have HB2 := Lib.hid (HB1.out.trans (hb2.mono HB1.out.size))
  have HL2 := Lib.hid (HLL.out _ w2 (HKA.out.on HB2.out))
  clear hb2 k2 p0 p1 p2
  go_wp2_with fail
  refine HL2.out.mono ?_
  rintro e w3 ⟨A3, c3, rfl, hml, hb3⟩
  have HB3 := Lib.hid (HB2.out.trans (hb3.mono HB2.out.size))
  have hcf := pcom_any L b (w.heap.size + 1) _ w3 HOKB.out hml (HCB.out.on HB3.out)
  rw [← HX.out] at hcf
  have HCF := Lib.hid hcf
  clear hcf
  clear hml hb3 q0 q1 q2
  go_wp2_with fail
  refine HCF.out.mono ?_
  rintro e w4 ⟨rfl, hb4⟩
  go_wp2_with fail
  go_ret
  exact ⟨ret_bool (congrArg (fun z => !z) HX.out), HA2.out.trans ((HB3.out.trans (hb4.mono HB3.out.size)).mono HA2.out.size)⟩

/-- A slice of one security status, in a new block. -/
theorem ML.one (w : World) (s : Sc) : ML (w.alloc s.row) (w.alloc s.row).heap.size (.slice (some ⟨w.heap.size, 0, none⟩) 1 1) [s] := by
  have hr := heap_alloc_new w s.row
  refine ⟨_, 1, rfl, Nat.le_refl _, by unfold maxLen; omega, fun _ => ⟨w.heap.size, 0, rfl, by rw [alloc_size]; omega, fun k hk => ?_⟩⟩
  obtain rfl : k = 0 := by simpa using hk
  exact ⟨(cell_of_row _ _ 0 _ _ _ hr).trans rfl, (cell_of_row _ _ 1 _ _ _ hr).trans rfl, (cell_of_row _ _ 2 _ _ _ hr).trans rfl, (cell_of_row _ _ 3 _ _ _ hr).trans rfl⟩
set_option maxRecDepth 100000 in
set_option maxHeartbeats 1600000 in
theorem lea_pin (n : Int) (ts : List Cn) (h1 : 1 ≤ n) (h2 : n ≤ 8) : LeaC (.mk 2 n ts) [⟨2 ^ n.toNat, 0, 0, 0⟩] := by
  intro v w hk
  simp only [Cn.op, Cn.n, Cn.kids] at *
  obtain ⟨A, cap, rfl, _, _, _⟩ := hk
  have h3 : 0 ≤ n := by omega
  have h4 : n ≤ 64 := by omega
  have HW := pow_i64 n h1 (by omega)
  have hone := ML.one (w.alloc (bx 2 n A ts.length cap)) ⟨2 ^ n.toNat, 0, 0, 0⟩
  have hb := alloc2_below w (bx 2 n A ts.length cap) (Sc.row ⟨2 ^ n.toNat, 0, 0, 0⟩)
  rw [alloc_size w (bx 2 n A ts.length cap)] at hone
  have HO := Lib.hid hone
  have HB := Lib.hid hb
  obtain ⟨P, hP⟩ : ∃ P : Int, (2 : Int) ^ n.toNat = P := ⟨_, rfl⟩
  rw [hP] at HW HO HB ⊢
  have HW1 : IntKind.i64.wrap P = P := by have h := HW; rw [Int.one_mul] at h; exact h
  clear hone hb
  go_enter Tryd.func50, Tryd.ntmps50
  go_wp2_with fail
  go_ret
  exact ⟨_, _, rfl, HO.out, HB.out⟩
set_option maxRecDepth 100000 in
set_option maxHeartbeats 1600000 in
theorem lea_state (n : Int) (ts : List Cn) : LeaC (.mk 4 n ts) [⟨0, 0, n, 0⟩] := by
  intro v w hk
  simp only [Cn.op, Cn.n, Cn.kids] at *
  obtain ⟨A, cap, rfl, _, _, _⟩ := hk
  have hone := ML.one (w.alloc (bx 4 n A ts.length cap)) ⟨0, 0, n, 0⟩
  have hb := alloc2_below w (bx 4 n A ts.length cap) (Sc.row ⟨0, 0, n, 0⟩)
  rw [alloc_size w (bx 4 n A ts.length cap)] at hone
  have HO := Lib.hid hone
  have HB := Lib.hid hb
  clear hone hb
  go_enter Tryd.func50, Tryd.ntmps50
  go_wp2_with fail
  go_ret
  exact ⟨_, _, rfl, HO.out, HB.out⟩
end Go.Proofs.YtjkbfogjfgnhiaaDoor
