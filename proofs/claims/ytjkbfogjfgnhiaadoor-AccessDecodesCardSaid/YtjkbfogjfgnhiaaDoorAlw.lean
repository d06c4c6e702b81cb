/-
  The walks of fewRules, of the reference's CheckRules, of Allowed (of both).
-/
import Derived.Test.YtjkbfogjfgnhiaaDoorLwa
namespace Go.Proofs.YtjkbfogjfgnhiaaDoor
set_option linter.unusedVariables false
set_option linter.unusedSimpArgs false
open Go.RowKit

def fewL (rs : List Rl) : Bool := rs.all fun r => fewB r.cond
def fewR (rs : List Rl) : Bool := decide (rs.length ≤ 50) && fewL rs
theorem fewL_drop (rs : List Rl) (k : Nat) (h : k < rs.length) : fewL (rs.drop k) = (fewB rs[k].cond && fewL (rs.drop (k + 1))) := by
  rw [List.drop_eq_getElem_cons h]; rfl
theorem fewR_cnt {rs : List Rl} (h : fewR rs = true) : ∀ (k : Nat) (hk : k < rs.length), rs[k].cond.cnt ≤ 400 := by
  intro k hk
  unfold fewR fewL at h
  rw [Bool.and_eq_true] at h
  have := List.all_eq_true.1 h.2 rs[k] (List.getElem_mem hk)
  have := few_cnt _ this
  omega
set_option maxRecDepth 100000 in
set_option maxHeartbeats 3200000 in
theorem fewr_any (rs : List Rl) (v : Value) (w : World) (hk : RL w w.heap.size v rs) :
    Calls Tryd.prog 21 #[v] w fun e w' => e = .returned (.bool (fewR rs)) ∧ Below w.heap.size w w' := by
  obtain ⟨A, cap, rfl, h1, h2, h3⟩ := hk
  unfold maxLen at h2
  by_cases h50 : 50 < rs.length
  · have HR : Hid (fewR rs = false) := by show _ = _; unfold fewR; rw [decide_eq_false (by omega), Bool.false_and]
    go_enter Tryd.func21, Tryd.ntmps21
    go_wp2_with fail
    go_ret
    exact ⟨ret_bool HR.out.symm, Below.refl _ _⟩
  · have HR : Hid (fewR rs = fewL rs) := by show _ = _; unfold fewR; rw [decide_eq_true (by omega), Bool.true_and]
    have h8d : decide (50 < rs.length) = false := decide_eq_false h50
    go_enter Tryd.func21, Tryd.ntmps21
    go_wp2_with fail
    clear h8d
    go_loopw [3] (fun i wr => ∃ (k : Nat), k ≤ rs.length ∧ i = .int .i64 k ∧ Hid (fewR rs = fewL (rs.drop k)) ∧ Hid (Below w.heap.size w wr)) (fun i _ => rs.length - (intOf i).toNat)
    case atStart => exact ⟨0, Nat.zero_le _, rfl, HR, Below.refl _ _⟩
    case round =>
      obtain ⟨k, hkl, rfl, HS, HB⟩ := hrel
      by_cases hlt : k < rs.length
      · obtain ⟨b1, o1, rfl, hb1, hts⟩ := h3.out (by omega)
        have hra := (hts k hlt).keep hb1 HB.out.size (fun p hp => HB.out.cell hp)
        have hdr := fewL_drop rs k hlt
        obtain ⟨r, hr⟩ : ∃ r, r = rs[k] := ⟨_, rfl⟩
        rw [← hr] at hra hdr
        clear hts hr
        obtain ⟨ops, c⟩ := r
        obtain ⟨g0, hca⟩ := hra
        obtain ⟨A2, c2, g1, g2, g3, hu⟩ := hca.cells
        simp only at g0 g1 g2 g3 hu hdr
        have hba := alloc_below wr (bx c.op c.n A2 c.kids.length c2)
        have HV := few_any [c] _ _ (KL.one wr c A2 c2 hu)
        have e1 : ([c] : List Cn).all fewB = fewB c := by simp
        rw [e1] at HV
        have HV := Lib.hid HV
        have HDR := Lib.hid hdr
        have HBA := Lib.hid hba
        clear hdr hba hca hu e1
        generalize fewB c = X at *
        go_wp2_with fail
        refine HV.out.mono ?_
        rintro e w2 ⟨rfl, hb2⟩
        have HB2 := Lib.hid (HB.out.trans ((HBA.out.trans (hb2.mono HBA.out.size)).mono HB.out.size))
        clear hb2
        cases X with
        | false =>
          go_wp2_with fail
          go_ret
          exact ⟨ret_bool (by rw [HS.out, HDR.out, Bool.false_and]), HB2.out⟩
        | true =>
          go_wp2_with fail
          go_roundw
          case rel => exact ⟨k + 1, by omega, by go_num, by show _ = _; rw [HS.out, HDR.out, Bool.true_and], HB2⟩
          case measure => simp [intOf]; omega
      · have HS2 : Hid (fewR rs = true) := by show _ = _; rw [HS.out, show k = rs.length by omega, List.drop_length]; rfl
        go_wp2_with fail
        go_ret
        exact ⟨ret_bool HS2.out.symm, HB.out⟩

set_option maxRecDepth 100000 in
set_option maxHeartbeats 3200000 in
theorem rchr_any (rs : List Rl) (v : Value) (w : World) (hk : RL w w.heap.size v rs) (hc : ∀ (k : Nat) (h : k < rs.length), rs[k].cond.cnt ≤ 400) :
    Calls Tryd.prog 23 #[v] w fun e w' => e = .returned (.int .i64 (chkR rs)) ∧ Below w.heap.size w w' := by
  obtain ⟨A, cap, rfl, h1, h2, h3⟩ := hk
  unfold maxLen at h2
  have HC := Lib.hid hc
  clear hc
  by_cases h8 : 8 < rs.length
  · have HR : Hid (chkR rs = 3) := if_pos h8
    go_enter Tryd.func23, Tryd.ntmps23
    go_wp2_with fail
    go_ret
    exact ⟨ret_int HR.out.symm, Below.refl _ _⟩
  · have HR : Hid (chkR rs = chkS rs) := if_neg h8
    have h8d : decide (8 < rs.length) = false := decide_eq_false h8
    go_enter Tryd.func23, Tryd.ntmps23
    go_wp2_with fail
    clear h8d
    go_loopw [3] (fun i wr => ∃ (k : Nat), k ≤ rs.length ∧ i = .int .i64 k ∧ Hid (chkR rs = chkS (rs.drop k)) ∧ Hid (Below w.heap.size w wr)) (fun i _ => rs.length - (intOf i).toNat)
    case atStart => exact ⟨0, Nat.zero_le _, rfl, HR, Below.refl _ _⟩
    case round =>
      obtain ⟨k, hkl, rfl, HS, HB⟩ := hrel
      by_cases hlt : k < rs.length
      · obtain ⟨b1, o1, rfl, hb1, hts⟩ := h3.out (by omega)
        have hra := (hts k hlt).keep hb1 HB.out.size (fun p hp => HB.out.cell hp)
        have hcn := HC.out k hlt
        have hdr := chkS_drop rs k hlt
        obtain ⟨r, hr⟩ : ∃ r, r = rs[k] := ⟨_, rfl⟩
        rw [← hr] at hra hcn hdr
        clear hts hr
        obtain ⟨ops, c⟩ := r
        obtain ⟨g0, hca⟩ := hra
        obtain ⟨A2, c2, g1, g2, g3, hu⟩ := hca.cells
        simp only at g0 g1 g2 g3 hu hcn hdr
        have HV := Lib.hid (rchk_any c _ _ hu hcn)
        have HDR := Lib.hid hdr
        clear hdr hca hu
        by_cases ho1 : 1 ≤ ops
        · by_cases ho2 : ops ≤ 255
          · have HO : Hid (opsB ops = true) := by show _ = _; simp [opsB, ho1, ho2]
            have hd1 : decide (ops < 1) = false := decide_eq_false (by omega)
            have hd2 : decide (255 < ops) = false := decide_eq_false (by omega)
            generalize chkC 1 3 c = E at *
            by_cases he : E = 0
            · subst he
              go_wp2_with fail
              refine HV.out.mono ?_
              rintro e w2 ⟨rfl, hb2⟩
              have HB2 := Lib.hid (HB.out.trans (hb2.mono HB.out.size))
              clear hb2
              go_wp2_with fail
              go_roundw
              case rel => exact ⟨k + 1, by omega, by go_num, by show _ = _; rw [HS.out, HDR.out, HO.out]; simp, HB2⟩
              case measure => simp [intOf]; omega
            · have he1 : (E != 0) = true := by simpa using he
              have he2 : (E == 0) = false := by simpa using he
              have he3 : decide (E = 0) = false := decide_eq_false he
              go_wp2_with fail
              refine HV.out.mono ?_
              rintro e w2 ⟨rfl, hb2⟩
              have HB2 := Lib.hid (HB.out.trans (hb2.mono HB.out.size))
              clear hb2
              go_wp2_with fail
              go_ret
              exact ⟨ret_int (by rw [HS.out, HDR.out, HO.out]; simp [he]), HB2.out⟩
          · have HO : Hid (opsB ops = false) := by show _ = _; simp [opsB, ho2]
            have hd1 : decide (ops < 1) = false := decide_eq_false (by omega)
            have hgt : 255 < ops := by omega
            go_wp2_with fail
            go_ret
            exact ⟨ret_int (by rw [HS.out, HDR.out, HO.out]; simp), HB.out⟩
        · have HO : Hid (opsB ops = false) := by show _ = _; simp [opsB, ho1]
          have hlt1 : ops < 1 := by omega
          go_wp2_with fail
          go_ret
          exact ⟨ret_int (by rw [HS.out, HDR.out, HO.out]; simp), HB.out⟩
      · have HS2 : Hid (chkR rs = 0) := by show _ = _; rw [HS.out, show k = rs.length by omega, List.drop_length, chkS]
        go_wp2_with fail
        go_ret
        exact ⟨ret_int HS2.out.symm, HB.out⟩

def oneB (op : Int) : Bool := decide (op = 1) || decide (op = 2) || decide (op = 4) || decide (op = 8) || decide (op = 16) || decide (op = 32) || decide (op = 64) || decide (op = 128)
theorem oneB_pow {op : Int} (h : oneB op = true) : ∃ j : Nat, j < 8 ∧ op = 2 ^ j := by
  unfold oneB at h
  simp only [Bool.or_eq_true, decide_eq_true_eq] at h
  rcases h with ((((((rfl | rfl) | rfl) | rfl) | rfl) | rfl) | rfl) | rfl
  · exact ⟨0, by omega, rfl⟩
  · exact ⟨1, by omega, rfl⟩
  · exact ⟨2, by omega, rfl⟩
  · exact ⟨3, by omega, rfl⟩
  · exact ⟨4, by omega, rfl⟩
  · exact ⟨5, by omega, rfl⟩
  · exact ⟨6, by omega, rfl⟩
  · exact ⟨7, by omega, rfl⟩
theorem bit_any {op : Int} (h : oneB op = true) (x : Int) : (bits .and .i64 x op != 0) = lvB x op := by
  obtain ⟨j, hj, rfl⟩ := oneB_pow h
  unfold lvB
  rw [and_pow x j (by omega)]
  have hp : (0 : Int) < 2 ^ j := two_pow_pos j
  cases tbI x j with
  | true => simp; omega
  | false => simp; omega
theorem one_all : ∀ m : Fin 256, (decide (0 < ((m.val : Nat) : Int)) && (bits .and .i64 ((m.val : Nat) : Int) (((m.val : Nat) : Int) - 1) == 0)) = oneB ((m.val : Nat) : Int) := by decide +kernel
theorem one_prog (op : Int) (h1 : 0 < op) (h2 : op ≤ 255) : (bits .and .i64 op (op - 1) == 0) = oneB op := by
  obtain ⟨m, rfl⟩ := Int.eq_ofNat_of_zero_le (show 0 ≤ op by omega)
  have := one_all ⟨m, by omega⟩
  simp only at this
  rw [← this, decide_eq_true h1, Bool.true_and]
theorem one_range {op : Int} (h : oneB op = true) : 0 < op ∧ op ≤ 255 := by
  unfold oneB at h
  simp only [Bool.or_eq_true, decide_eq_true_eq] at h
  omega
def alwF (op : Int) (s : Sc) (r : Rl) : Bool := lvB r.ops op && r.cond.sat s
/-- What Allowed answers. -/
def alwB (rs : List Rl) (op : Int) (s : Sc) : Bool := oneB op && decide (chkR rs = 0) && rs.any (alwF op s)

set_option maxRecDepth 100000 in
set_option maxHeartbeats 1600000 in
theorem pka_any (r : Rl) (op : Int) (s : Sc) (ob sb : Nat) (v : Value) (w : World) (h1 : oneB op = true) (hok : r.cond.ok = true) (hk : KL w w.heap.size v r.cond.kids) (ho : w.heap[ob]? = some (.cells #[.int .i64 op] 3 (0, 0))) (hs : w.heap[sb]? = some s.row) :
    Calls Tryd.prog 46 #[.agg #[.int .i64 r.ops, .int .i64 r.cond.op, .int .i64 r.cond.n, v], .pointer (some ⟨ob, 0, none⟩), .pointer (some ⟨sb, 0, none⟩)] w fun e w' => e = .returned (.bool (alwF op s r)) ∧ Below w.heap.size w w' := by
  obtain ⟨ops, c⟩ := r
  obtain ⟨A, cap, rfl, _, _, _⟩ := id hk
  simp only at *
  have hob : ob < w.heap.size := (Array.getElem?_eq_some_iff.1 ho).1
  have hsb : sb < w.heap.size := (Array.getElem?_eq_some_iff.1 hs).1
  have ha := alloc_below w (Obj.cells #[Value.int IntKind.i64 ops, Value.int IntKind.i64 c.op, Value.int IntKind.i64 c.n, Value.slice A c.kids.length cap] 53)
  have ho1 := (ha.block ob hob).trans ho
  have hs1 := (ha.block sb hsb).trans hs
  have q0 := cell_of_row _ _ 0 _ _ _ ho1
  have g0 := cell_of_row _ _ 0 _ _ _ hs1
  have g1 := cell_of_row _ _ 1 _ _ _ hs1
  have g2 := cell_of_row _ _ 2 _ _ _ hs1
  have g3 := cell_of_row _ _ 3 _ _ _ hs1
  have HX := bit_any h1 ops
  have HA : Hid (alwF op s ⟨ops, c⟩ = (lvB ops op && c.sat s)) := rfl
  have HC := Lib.hid (hold_any (c.dep + 1) c (by omega) s _ _ hok (hk.on ha))
  have HB := Lib.hid ha
  clear ha ho1 hs1 ho hs hk h1 hok
  generalize c.sat s = X at *
  by_cases hz : bits .and .i64 ops op = 0
  · have HF : Hid (alwF op s ⟨ops, c⟩ = false) := by show _ = _; rw [HA.out, ← HX, hz]; rfl
    clear HX
    go_enter Tryd.func46, Tryd.ntmps46
    go_wp2_with fail
    go_ret
    exact ⟨ret_bool HF.out.symm, HB.out⟩
  · have hz1 : (bits .and .i64 ops op != 0) = true := by simpa using hz
    have hz2 : (bits .and .i64 ops op == 0) = false := by simpa using hz
    have hz3 : decide (bits .and .i64 ops op = 0) = false := decide_eq_false hz
    have HF : Hid (alwF op s ⟨ops, c⟩ = X) := by show _ = _; rw [HA.out, ← HX, hz1, Bool.true_and]
    clear HX
    go_enter Tryd.func46, Tryd.ntmps46
    go_wp2_with fail
    refine HC.out.mono ?_
    rintro e w1 ⟨rfl, hb1⟩
    go_wp2_with fail
    go_ret
    exact ⟨ret_bool HF.out.symm, HB.out.trans (hb1.mono HB.out.size)⟩

def Rl.zero : Rl := ⟨0, Cn.zero⟩
/-- The place of the first element that f takes, or -1. -/
def idxR (f : Rl → Bool) (l : List Rl) : Int := if l.any f then (l.findIdx f : Int) else -1
theorem gD_rl (l : List Rl) (k : Nat) (h : k < l.length) : l.getD k Rl.zero = l[k] := by simp [List.getD, List.getElem?_eq_getElem h]
theorem idxR_at (f : Rl → Bool) (l : List Rl) (k : Nat) (hk : k < l.length) (h : f l[k] = true) (hb : ∀ j, j < k → f (l.getD j Rl.zero) = false) : idxR f l = (k : Int) := by
  have hm : l.any f = true := List.any_eq_true.2 ⟨l[k], List.getElem_mem hk, h⟩
  rw [idxR, if_pos hm]
  have h1 : l.findIdx f ≤ k := by
    rcases Nat.lt_or_ge k (l.findIdx f) with h' | h'
    · exact absurd h (by simpa using List.not_of_lt_findIdx h')
    · exact h'
  have h2 : ¬ l.findIdx f < k := fun h' => by
    have hlt : l.findIdx f < l.length := by omega
    have := hb _ h'
    rw [gD_rl l _ hlt] at this
    have e := List.findIdx_getElem (p := f) (w := hlt)
    rw [this] at e
    cases e
  congr 1
  omega
theorem idxR_no (f : Rl → Bool) (l : List Rl) (h : ∀ j, j < l.length → f (l.getD j Rl.zero) = false) : idxR f l = -1 := by
  rw [idxR, if_neg]
  intro hm
  obtain ⟨x, hx, e⟩ := List.any_eq_true.1 hm
  obtain ⟨j, hj, rfl⟩ := List.getElem_of_mem hx
  have := h j hj
  rw [gD_rl l j hj, e] at this
  cases this
theorem no_snocR {f : Rl → Bool} {l : List Rl} {k : Nat} (hl : k < l.length) (h : ∀ j, j < k → f (l.getD j Rl.zero) = false) (hk : f l[k] = false) : ∀ j, j < k + 1 → f (l.getD j Rl.zero) = false := by
  intro j hj
  rcases Nat.lt_or_ge j k with h' | h'
  · exact h j h'
  · obtain rfl : j = k := by omega
    rw [gD_rl l j hl]
    exact hk
theorem idxR_any (f : Rl → Bool) (l : List Rl) : decide (0 ≤ idxR f l) = l.any f := by
  unfold idxR
  by_cases h : l.any f = true
  · rw [if_pos h, h]; exact decide_eq_true (by omega)
  · rw [if_neg h]; rw [Bool.not_eq_true] at h; rw [h]; rfl

set_option maxRecDepth 100000 in
set_option maxHeartbeats 1600000 in
theorem pixr_any (l : List Rl) (op : Int) (s : Sc) (ob sb : Nat) (v : Value) (w : World) (h1 : oneB op = true) (hok : ∀ (k : Nat) (h : k < l.length), l[k].cond.ok = true) (h : RL w w.heap.size v l) (ho : w.heap[ob]? = some (.cells #[.int .i64 op] 3 (0, 0))) (hs : w.heap[sb]? = some s.row) :
    Calls Tryd.prog 71 #[v, .func (.func 46) #[] #[.pointer (some ⟨ob, 0, none⟩), .pointer (some ⟨sb, 0, none⟩)]] w fun e w' => e = .returned (.int .i64 (idxR (alwF op s) l)) ∧ Below w.heap.size w w' := by
  obtain ⟨A, c, rfl, h1', h2, h3⟩ := h
  unfold maxLen at h2
  have H1 := Lib.hid h1
  have HOK := Lib.hid hok
  have HS := Lib.hid hs
  have HO := Lib.hid ho
  clear hok hs ho h1
  go_enter Tryd.func71, Tryd.ntmps71
  go_wp2
  go_loopw [8] (fun i wr => ∃ k : Nat, k ≤ l.length ∧ i = .int .i64 k ∧ Hid (∀ j, j < k → alwF op s (l.getD j Rl.zero) = false) ∧ Hid (Below w.heap.size w wr)) (fun i _ => l.length - (intOf i).toNat)
  case atStart => exact ⟨0, Nat.zero_le _, rfl, fun j hj => absurd hj (by omega), Below.refl _ _⟩
  case round =>
    obtain ⟨k, hk, rfl, HE, HB⟩ := hrel
    by_cases hlt : k < l.length
    · obtain ⟨b, o, rfl, hb, hts⟩ := h3.out (by omega)
      have hta := (hts k hlt).keep hb HB.out.size (fun p hp => HB.out.cell hp)
      have HAT := Lib.hid (idxR_at (alwF op s) l k hlt)
      have HSN := Lib.hid (@no_snocR (alwF op s) l k hlt HE.out)
      have hokk := HOK.out k hlt
      generalize l[k] = r at *
      obtain ⟨ops, cc⟩ := r
      obtain ⟨g0, hca⟩ := hta
      obtain ⟨A2, c2, g1, g2, g3, hu⟩ := hca.cells
      simp only at g0 g1 g2 g3 hu hokk
      have HQ := Lib.hid (pka_any ⟨ops, cc⟩ op s ob sb _ wr H1.out hokk hu ((HB.out.block ob (Array.getElem?_eq_some_iff.1 HO.out).1).trans HO.out) ((HB.out.block sb (Array.getElem?_eq_some_iff.1 HS.out).1).trans HS.out))
      clear hts hca hu hokk
      generalize alwF op s ⟨ops, cc⟩ = X at HAT HSN HQ
      go_wp2_with fail
      refine HQ.out.mono ?_
      rintro e w2 ⟨rfl, hb2⟩
      have HB2 := Lib.hid (HB.out.trans (hb2.mono HB.out.size))
      clear hb2
      cases X with
      | true =>
        go_wp2_with fail
        go_ret
        exact ⟨ret_int (HAT.out (by first | exact trivial | rfl) HE.out).symm, HB2.out⟩
      | false =>
        go_wp2_with fail
        go_roundw
        case rel => exact ⟨k + 1, by omega, by go_num, HSN.out (by first | exact trivial | rfl), HB2⟩
        case measure => simp [intOf]; omega
    · have hkk : k = l.length := by omega
      subst hkk
      go_wp2
      go_ret
      exact ⟨ret_int (idxR_no (alwF op s) l HE.out).symm, HB.out⟩

set_option maxRecDepth 100000 in
theorem pcor_any (l : List Rl) (op : Int) (s : Sc) (ob sb : Nat) (v : Value) (w : World) (h1 : oneB op = true) (hok : ∀ (k : Nat) (h : k < l.length), l[k].cond.ok = true) (h : RL w w.heap.size v l) (ho : w.heap[ob]? = some (.cells #[.int .i64 op] 3 (0, 0))) (hs : w.heap[sb]? = some s.row) :
    Calls Tryd.prog 45 #[v, .func (.func 46) #[] #[.pointer (some ⟨ob, 0, none⟩), .pointer (some ⟨sb, 0, none⟩)]] w fun e w' => e = .returned (.bool (l.any (alwF op s))) ∧ Below w.heap.size w w' := by
  have HX := Lib.hid (pixr_any l op s ob sb v w h1 hok h ho hs)
  have HE := Lib.hid (idxR_any (alwF op s) l)
  obtain ⟨A, c, rfl, h1', h2, h3⟩ := h
  clear hok hs ho h1
  generalize idxR (alwF op s) l = i at *
  go_enter Tryd.func45, Tryd.ntmps45
  go_wp2_with fail
  refine HX.out.mono ?_
  rintro e w1 ⟨rfl, hb1⟩
  go_wp2_with fail
  go_ret
  exact ⟨ret_bool HE.out, hb1⟩

theorem chkR_get {rs : List Rl} (h : chkR rs = 0) : ∀ (k : Nat) (hk : k < rs.length), rs[k].cond.ok = true := by
  intro k hk
  have hs0 : chkS rs = 0 := by
    unfold chkR at h
    by_cases h8 : 8 < rs.length
    · rw [if_pos h8] at h; omega
    · rw [if_neg h8] at h; exact h
  exact chk_ok (chkS_get rs k hk hs0).2

set_option maxRecDepth 100000 in
set_option maxHeartbeats 3200000 in
theorem palw_any (rs : List Rl) (op : Int) (s : Sc) (v : Value) (w : World) (hk : RL w w.heap.size v rs) (hT : Tb w) (hc : ∀ (k : Nat) (h : k < rs.length), rs[k].cond.cnt ≤ 400) :
    Calls Tryd.prog 24 #[v, .int .i64 op, .agg #[.int .i64 s.pins, .int .i64 s.keys, .int .i64 s.state, .int .i64 s.level]] w fun e w' => e = .returned (.bool (alwB rs op s)) ∧ Below w.heap.size w w' := by
  have h2 := alloc2_below w (.cells #[.int .i64 op] 3 (0, 0)) s.row
  have hn0 := (Below.heap_alloc (w.alloc (.cells #[.int .i64 op] 3 (0, 0))) s.row w.heap.size (by rw [alloc_size]; omega)).trans (heap_alloc_new w (.cells #[.int .i64 op] 3 (0, 0)))
  have hn1 := heap_alloc_new (w.alloc (.cells #[.int .i64 op] 3 (0, 0))) s.row
  rw [alloc_size] at hn1
  have hsz : ((w.alloc (.cells #[.int .i64 op] 3 (0, 0))).alloc s.row).heap.size = w.heap.size + 2 := by rw [alloc_size, alloc_size]
  have HQ := Lib.hid (pchr_any rs v _ (hk.on h2) (hT.on h2) hc)
  have HB0 : Hid (alwB rs op s = (oneB op && decide (chkR rs = 0) && rs.any (alwF op s))) := rfl
  have HCO := Lib.hid fun (W : World) (h1 : oneB op = true) (h0 : chkR rs = 0) hk' ho hs => pcor_any rs op s w.heap.size (w.heap.size + 1) v W h1 (chkR_get h0) hk' ho hs
  have HKL := Lib.hid (hk.on h2)
  have HN0 := Lib.hid hn0
  have HN1 := Lib.hid hn1
  have HL0 := Lib.hid (show w.heap.size < ((w.alloc (.cells #[.int .i64 op] 3 (0, 0))).alloc s.row).heap.size by rw [hsz]; omega)
  have HL1 := Lib.hid (show w.heap.size + 1 < ((w.alloc (.cells #[.int .i64 op] 3 (0, 0))).alloc s.row).heap.size by rw [hsz]; omega)
  have HA := Lib.hid h2
  obtain ⟨A, cap, rfl, _, _, _⟩ := id hk
  clear h2 hn0 hn1 hsz hk hT hc
  by_cases hp : 0 < op
  · by_cases hq : op ≤ 255
    · have hz := one_prog op hp hq
      generalize oneB op = O at *
      cases O with
      | false =>
        have HR : Hid (alwB rs op s = false) := by show _ = _; rw [HB0.out, Bool.false_and, Bool.false_and]
        have hz1 : ¬ bits .and .i64 op (op - 1) = 0 := by simpa using hz
        have hz3 : decide (bits .and .i64 op (op - 1) = 0) = false := decide_eq_false hz1
        go_enter Tryd.func24, Tryd.ntmps24
        go_wp2_with fail
        go_ret
        exact ⟨ret_bool HR.out.symm, HA.out⟩
      | true =>
        have hz1 : bits .and .i64 op (op - 1) = 0 := by simpa using hz
        have HZZ := Lib.hid hz
        clear hz
        have HCO2 := Lib.hid fun (W : World) => HCO.out W (by first | exact trivial | rfl)
        clear HCO
        generalize hE : chkR rs = E at *
        have HEE := Lib.hid hE
        clear hE
        by_cases h0 : E = 0
        · subst h0
          have HR : Hid (alwB rs op s = rs.any (alwF op s)) := by show _ = _; rw [HB0.out]; simp
          go_enter Tryd.func24, Tryd.ntmps24
          go_wp2_with fail
          refine HQ.out.mono ?_
          rintro e w1 ⟨rfl, hb1⟩
          have HCF := Lib.hid (HCO2.out w1 (by first | exact trivial | rfl) (HKL.out.on hb1) ((hb1.block _ HL0.out).trans HN0.out) ((hb1.block _ HL1.out).trans HN1.out))
          have HB1 := Lib.hid (HA.out.trans (hb1.mono HA.out.size))
          clear hb1
          go_wp2_with fail
          refine HCF.out.mono ?_
          rintro e w2 ⟨rfl, hb2⟩
          go_wp2_with fail
          go_ret
          exact ⟨ret_bool HR.out.symm, HB1.out.trans (hb2.mono HB1.out.size)⟩
        · have HR : Hid (alwB rs op s = false) := by show _ = _; rw [HB0.out]; simp [h0]
          have he1 : (E != 0) = true := by simpa using h0
          have he2 : (E == 0) = false := by simpa using h0
          have he3 : decide (E = 0) = false := decide_eq_false h0
          go_enter Tryd.func24, Tryd.ntmps24
          go_wp2_with fail
          refine HQ.out.mono ?_
          rintro e w1 ⟨rfl, hb1⟩
          go_wp2_with fail
          go_ret
          exact ⟨ret_bool HR.out.symm, HA.out.trans (hb1.mono HA.out.size)⟩
    · have HO : Hid (oneB op = false) := by
        show _ = _
        cases hx : oneB op with
        | false => rfl
        | true => have := one_range hx; omega
      have HR : Hid (alwB rs op s = false) := by show _ = _; rw [HB0.out, HO.out, Bool.false_and, Bool.false_and]
      have hq1 : decide (op ≤ 255) = false := decide_eq_false hq
      go_enter Tryd.func24, Tryd.ntmps24
      go_wp2_with fail
      go_ret
      exact ⟨ret_bool HR.out.symm, HA.out⟩
  · have HO : Hid (oneB op = false) := by
      show _ = _
      cases hx : oneB op with
      | false => rfl
      | true => have := one_range hx; omega
    have HR : Hid (alwB rs op s = false) := by show _ = _; rw [HB0.out, HO.out, Bool.false_and, Bool.false_and]
    have hp1 : decide (0 < op) = false := decide_eq_false hp
    go_enter Tryd.func24, Tryd.ntmps24
    go_wp2_with fail
    go_ret
    exact ⟨ret_bool HR.out.symm, HA.out⟩
end Go.Proofs.YtjkbfogjfgnhiaaDoor
