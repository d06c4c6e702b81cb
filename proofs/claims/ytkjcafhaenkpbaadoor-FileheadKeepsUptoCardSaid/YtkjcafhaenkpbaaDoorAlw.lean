
/-
  The walks of fewRules, of the reference's CheckRules, of Allowed (of both).
-/
import Derived.Test.YtkjcafhaenkpbaaDoorEnr
namespace Go.Proofs.YtkjcafhaenkpbaaDoor
set_option linter.unusedVariables false
set_option linter.unusedSimpArgs false
open Go.RowKit

def fewL (rs : List Rl) : Bool := rs.all fun r => fewB r.cond
def fewR (rs : List Rl) : Bool := decide (rs.length ≤ 50) && fewL rs
theorem fewL_drop (rs : List Rl) (k : Nat) (h : k < rs.length) : fewL (rs.drop k) = (fewB rs[k].cond && fewL (rs.drop (k + 1))) := by
  rw [List.drop_eq_getElem_cons h]; rfl
theorem fewR_cnt {rs : List Rl} (h : fewR rs = true) : ∀ (k : Nat) (hk : k < rs.length), rs[k].cond.cnt ≤ 400 := by
  intro k hk
  unfold fewR fewL at h
  rw [Bool.and_eq_true] at h
  have := List.all_eq_true.1 h.2 rs[k] (List.getElem_mem hk)
  have := few_cnt _ this
  omega
set_option maxRecDepth 100000 in
set_option maxHeartbeats 3200000 in
theorem rchr_any (rs : List Rl) (v : Value) (w : World) (hk : RL w w.heap.size v rs) (hc : ∀ (k : Nat) (h : k < rs.length), rs[k].cond.cnt ≤ 3000000) :
    Calls Tryd.prog 31 #[v] w fun e w' => e = .returned (.int .i64 (chkR rs)) ∧ Below w.heap.size w w' := by
  obtain ⟨A, cap, rfl, h1, h2, h3⟩ := hk
  unfold maxLen at h2
  have HC := Lib.hid hc
  clear hc
  by_cases h8 : 8 < rs.length
  · have HR : Hid (chkR rs = 3) := if_pos h8
    go_enter Tryd.func31, Tryd.ntmps31
    go_wp2_with fail
    go_ret
    exact ⟨ret_int HR.out.symm, Below.refl _ _⟩
  · have HR : Hid (chkR rs = chkS rs) := if_neg h8
    have h8d : decide (8 < rs.length) = false := decide_eq_false h8
    go_enter Tryd.func31, Tryd.ntmps31
    go_wp2_with fail
    clear h8d
    go_loopw [3] (fun i wr => ∃ (k : Nat), k ≤ rs.length ∧ i = .int .i64 k ∧ Hid (chkR rs = chkS (rs.drop k)) ∧ Hid (Below w.heap.size w wr)) (fun i _ => rs.length - (intOf i).toNat)
    case atStart => exact ⟨0, Nat.zero_le _, rfl, HR, Below.refl _ _⟩
    case round =>
      obtain ⟨k, hkl, rfl, HS, HB⟩ := hrel
      by_cases hlt : k < rs.length
      · obtain ⟨b1, o1, rfl, hb1, hts⟩ := h3.out (by omega)
        have hra := (hts k hlt).keep hb1 HB.out.size (fun p hp => HB.out.cell hp)
        have hcn := HC.out k hlt
        have hdr := chkS_drop rs k hlt
        obtain ⟨r, hr⟩ : ∃ r, r = rs[k] := ⟨_, rfl⟩
        rw [← hr] at hra hcn hdr
        clear hts hr
        obtain ⟨ops, c⟩ := r
        obtain ⟨g0, hca⟩ := hra
        obtain ⟨A2, c2, g1, g2, g3, hu⟩ := hca.cells
        simp only at g0 g1 g2 g3 hu hcn hdr
        have HV := Lib.hid (rchk_any c _ _ hu hcn)
        have HDR := Lib.hid hdr
        clear hdr hca hu
        by_cases ho1 : 1 ≤ ops
        · by_cases ho2 : ops ≤ 255
          · have HO : Hid (opsB ops = true) := by show _ = _; simp [opsB, ho1, ho2]
            have hd1 : decide (ops < 1) = false := decide_eq_false (by omega)
            have hd2 : decide (255 < ops) = false := decide_eq_false (by omega)
            generalize chkC 1 3 c = E at *
            by_cases he : E = 0
            · subst he
              go_wp2_with fail
              refine HV.out.mono ?_
              rintro e w2 ⟨rfl, hb2⟩
              have HB2 := Lib.hid (HB.out.trans (hb2.mono HB.out.size))
              clear hb2
              go_wp2_with fail
              go_roundw
              case rel => exact ⟨k + 1, by omega, by go_num, by show _ = _; rw [HS.out, HDR.out, HO.out]; simp, HB2⟩
              case measure => simp [intOf]; omega
            · have he1 : (E != 0) = true := by simpa using he
              have he2 : (E == 0) = false := by simpa using he
              have he3 : decide (E = 0) = false := decide_eq_false he
              go_wp2_with fail
              refine HV.out.mono ?_
              rintro e w2 ⟨rfl, hb2⟩
              have HB2 := Lib.hid (HB.out.trans (hb2.mono HB.out.size))
              clear hb2
              go_wp2_with fail
              go_ret
              exact ⟨ret_int (by rw [HS.out, HDR.out, HO.out]; simp [he]), HB2.out⟩
          · have HO : Hid (opsB ops = false) := by show _ = _; simp [opsB, ho2]
            have hd1 : decide (ops < 1) = false := decide_eq_false (by omega)
            have hgt : 255 < ops := by omega
            go_wp2_with fail
            go_ret
            exact ⟨ret_int (by rw [HS.out, HDR.out, HO.out]; simp), HB.out⟩
        · have HO : Hid (opsB ops = false) := by show _ = _; simp [opsB, ho1]
          have hlt1 : ops < 1 := by omega
          go_wp2_with fail
          go_ret
          exact ⟨ret_int (by rw [HS.out, HDR.out, HO.out]; simp), HB.out⟩
      · have HS2 : Hid (chkR rs = 0) := by show _ = _; rw [HS.out, show k = rs.length by omega, List.drop_length, chkS]
        go_wp2_with fail
        go_ret
        exact ⟨ret_int HS2.out.symm, HB.out⟩

def oneB (op : Int) : Bool := decide (op = 1) || decide (op = 2) || decide (op = 4) || decide (op = 8) || decide (op = 16) || decide (op = 32) || decide (op = 64) || decide (op = 128)
theorem oneB_pow {op : Int} (h : oneB op = true) : ∃ j : Nat, j < 8 ∧ op = 2 ^ j := by
  unfold oneB at h
  simp only [Bool.or_eq_true, decide_eq_true_eq] at h
  rcases h with ((((((rfl | rfl) | rfl) | rfl) | rfl) | rfl) | rfl) | rfl
  · exact ⟨0, by omega, rfl⟩
  · exact ⟨1, by omega, rfl⟩
  · exact ⟨2, by omega, rfl⟩
  · exact ⟨3, by omega, rfl⟩
  · exact ⟨4, by omega, rfl⟩
  · exact ⟨5, by omega, rfl⟩
  · exact ⟨6, by omega, rfl⟩
  · exact ⟨7, by omega, rfl⟩
theorem bit_any {op : Int} (h : oneB op = true) (x : Int) : (bits .and .i64 x op != 0) = lvB x op := by
  obtain ⟨j, hj, rfl⟩ := oneB_pow h
  unfold lvB
  rw [and_pow x j (by omega)]
  have hp : (0 : Int) < 2 ^ j := two_pow_pos j
  cases tbI x j with
  | true => simp; omega
  | false => simp; omega
theorem one_all : ∀ m : Fin 256, (decide (0 < ((m.val : Nat) : Int)) && (bits .and .i64 ((m.val : Nat) : Int) (((m.val : Nat) : Int) - 1) == 0)) = oneB ((m.val : Nat) : Int) := by decide +kernel
theorem one_prog (op : Int) (h1 : 0 < op) (h2 : op ≤ 255) : (bits .and .i64 op (op - 1) == 0) = oneB op := by
  obtain ⟨m, rfl⟩ := Int.eq_ofNat_of_zero_le (show 0 ≤ op by omega)
  have := one_all ⟨m, by omega⟩
  simp only at this
  rw [← this, decide_eq_true h1, Bool.true_and]
theorem one_range {op : Int} (h : oneB op = true) : 0 < op ∧ op ≤ 255 := by
  unfold oneB at h
  simp only [Bool.or_eq_true, decide_eq_true_eq] at h
  omega
def alwF (op : Int) (s : Sc) (r : Rl) : Bool := lvB r.ops op && r.cond.sat s
/-- What Allowed answers. -/
def alwB (rs : List Rl) (op : Int) (s : Sc) : Bool := oneB op && decide (chkR rs = 0) && rs.any (alwF op s)

def Rl.zero : Rl := ⟨0, Cn.zero⟩
/-- The place of the first element that f takes, or -1. -/
def idxR (f : Rl → Bool) (l : List Rl) : Int := if l.any f then (l.findIdx f : Int) else -1
theorem gD_rl (l : List Rl) (k : Nat) (h : k < l.length) : l.getD k Rl.zero = l[k] := by simp [List.getD, List.getElem?_eq_getElem h]
theorem idxR_at (f : Rl → Bool) (l : List Rl) (k : Nat) (hk : k < l.length) (h : f l[k] = true) (hb : ∀ j, j < k → f (l.getD j Rl.zero) = false) : idxR f l = (k : Int) := by
  have hm : l.any f = true := List.any_eq_true.2 ⟨l[k], List.getElem_mem hk, h⟩
  rw [idxR, if_pos hm]
  have h1 : l.findIdx f ≤ k := by
    rcases Nat.lt_or_ge k (l.findIdx f) with h' | h'
    · exact absurd h (by simpa using List.not_of_lt_findIdx h')
    · exact h'
  have h2 : ¬ l.findIdx f < k := fun h' => by
    have hlt : l.findIdx f < l.length := by omega
    have := hb _ h'
    rw [gD_rl l _ hlt] at this
    have e := List.findIdx_getElem (p := f) (w := hlt)
    rw [this] at e
    cases e
  congr 1
  omega
theorem idxR_no (f : Rl → Bool) (l : List Rl) (h : ∀ j, j < l.length → f (l.getD j Rl.zero) = false) : idxR f l = -1 := by
  rw [idxR, if_neg]
  intro hm
  obtain ⟨x, hx, e⟩ := List.any_eq_true.1 hm
  obtain ⟨j, hj, rfl⟩ := List.getElem_of_mem hx
  have := h j hj
  rw [gD_rl l j hj, e] at this
  cases this
theorem no_snocR {f : Rl → Bool} {l : List Rl} {k : Nat} (hl : k < l.length) (h : ∀ j, j < k → f (l.getD j Rl.zero) = false) (hk : f l[k] = false) : ∀ j, j < k + 1 → f (l.getD j Rl.zero) = false := by
  intro j hj
  rcases Nat.lt_or_ge j k with h' | h'
  · exact h j h'
  · obtain rfl : j = k := by omega
    rw [gD_rl l j hl]
    exact hk
theorem idxR_any (f : Rl → Bool) (l : List Rl) : decide (0 ≤ idxR f l) = l.any f := by
  unfold idxR
  by_cases h : l.any f = true
  · rw [if_pos h, h]; exact decide_eq_true (by omega)
  · rw [if_neg h]; rw [Bool.not_eq_true] at h; rw [h]; rfl

theorem chkR_get {rs : List Rl} (h : chkR rs = 0) : ∀ (k : Nat) (hk : k < rs.length), rs[k].cond.ok = true := by
  intro k hk
  have hs0 : chkS rs = 0 := by
    unfold chkR at h
    by_cases h8 : 8 < rs.length
    · rw [if_pos h8] at h; omega
    · rw [if_neg h8] at h; exact h
  exact chk_ok (chkS_get rs k hk hs0).2

end Go.Proofs.YtkjcafhaenkpbaaDoor
