/-
  Rules: how a slice of them lies in memory; the walks of CheckRules (of both).
-/
import Derived.Test.YtjkbfogjfgnhiaaDoorWri
namespace Go.Proofs.YtjkbfogjfgnhiaaDoor
set_option linter.unusedVariables false
set_option linter.unusedSimpArgs false
open Go.RowKit

structure Rl where
  ops : Int
  cond : Cn
/-- The rule r lies at four cells from ⟨b, o⟩ on. -/
def RAt (w : World) (B b o : Nat) (r : Rl) : Prop := w.cell? ⟨b, o, none⟩ = some (.int .i64 r.ops) ∧ CnAt w B b (o + 1) r.cond
/-- v is a slice of rules that reads as rs. -/
def RL (w : World) (B : Nat) (v : Value) (rs : List Rl) : Prop :=
  ∃ A c, v = .slice A rs.length c ∧ rs.length ≤ c ∧ c ≤ maxLen ∧ Hid (0 < rs.length → ∃ b o, A = some ⟨b, o, none⟩ ∧ b < B ∧ ∀ (k : Nat) (h : k < rs.length), RAt w B b (o + k * 4) rs[k])
theorem RAt.keep {w w' : World} {B B' b o : Nat} {r : Rl} (h : RAt w B b o r) (hb : b < B) (hB : B ≤ B') (hk : ∀ p : Addr, p.block < B → w'.cell? p = w.cell? p) : RAt w' B' b o r :=
  ⟨(hk ⟨b, o, none⟩ hb).trans h.1, CnAt.keep hB hk _ _ _ hb h.2⟩
theorem RL.keep {w w' : World} {B B' : Nat} {v : Value} {rs : List Rl} (h : RL w B v rs) (hB : B ≤ B') (hk : ∀ p : Addr, p.block < B → w'.cell? p = w.cell? p) : RL w' B' v rs := by
  obtain ⟨A, c, hv, h1, h2, h3⟩ := h
  refine ⟨A, c, hv, h1, h2, fun hp => ?_⟩
  obtain ⟨b, o, hA, hb, hts⟩ := h3.out hp
  exact ⟨b, o, hA, by omega, fun k hk' => (hts k hk').keep hb hB hk⟩
theorem RL.on {w w' : World} {v : Value} {rs : List Rl} (h : RL w w.heap.size v rs) (hb : Below w.heap.size w w') : RL w' w'.heap.size v rs := h.keep hb.size fun _ hp => hb.cell hp
theorem RL.more {w : World} {B B' : Nat} {v : Value} {rs : List Rl} (h : RL w B v rs) (hB : B ≤ B') : RL w B' v rs := h.keep hB fun _ _ => rfl

def opsB (n : Int) : Bool := decide (1 ≤ n) && decide (n ≤ 255)
def chkS : List Rl → Int
  | [] => 0
  | r :: rs => if opsB r.ops then (if chkC 1 3 r.cond = 0 then chkS rs else chkC 1 3 r.cond) else 1
/-- What CheckRules answers. -/
def chkR (rs : List Rl) : Int := if 8 < rs.length then 3 else chkS rs
theorem chkS_drop (rs : List Rl) (k : Nat) (h : k < rs.length) : chkS (rs.drop k) = if opsB rs[k].ops then (if chkC 1 3 rs[k].cond = 0 then chkS (rs.drop (k + 1)) else chkC 1 3 rs[k].cond) else 1 := by
  rw [List.drop_eq_getElem_cons h, chkS]
theorem chkS_get : ∀ (rs : List Rl) (k : Nat) (h : k < rs.length), chkS rs = 0 → opsB rs[k].ops = true ∧ chkC 1 3 rs[k].cond = 0
  | r :: rs, 0, _, h => by
    rw [chkS] at h
    by_cases h1 : opsB r.ops = true
    · rw [if_pos h1] at h
      by_cases h2 : chkC 1 3 r.cond = 0
      · exact ⟨h1, h2⟩
      · rw [if_neg h2] at h; exact absurd h h2
    · rw [if_neg h1] at h; omega
  | r :: rs, k + 1, hk, h => by
    rw [chkS] at h
    by_cases h1 : opsB r.ops = true
    · rw [if_pos h1] at h
      by_cases h2 : chkC 1 3 r.cond = 0
      · rw [if_pos h2] at h
        exact chkS_get rs k (by simpa using hk) h
      · rw [if_neg h2] at h; exact absurd h h2
    · rw [if_neg h1] at h; omega
theorem chk_len {c : Cn} (h : chkC 1 3 c = 0) : c.cnt ≤ 16 ∧ c.dep ≤ 8 := by
  have hok := chk_ok h
  unfold chkC at h
  rw [hok] at h
  simp only [if_true] at h
  by_cases h2 : 16 < c.cnt ∨ 8 < c.dep
  · rw [if_pos h2] at h; omega
  · omega

set_option maxRecDepth 100000 in
set_option maxHeartbeats 3200000 in
theorem pchr_any (rs : List Rl) (v : Value) (w : World) (hk : RL w w.heap.size v rs) (hT : Tb w) (hc : ∀ (k : Nat) (h : k < rs.length), rs[k].cond.cnt ≤ 400) :
    Calls Tryd.prog 22 #[v] w fun e w' => e = .returned (.int .i64 (chkR rs)) ∧ Below w.heap.size w w' := by
  obtain ⟨A, cap, rfl, h1, h2, h3⟩ := hk
  unfold maxLen at h2
  have HC := Lib.hid hc
  have HT := Lib.hid hT
  clear hc hT
  by_cases h8 : 8 < rs.length
  · have HR : Hid (chkR rs = 3) := if_pos h8
    go_enter Tryd.func22, Tryd.ntmps22
    go_wp2_with fail
    go_ret
    exact ⟨ret_int HR.out.symm, Below.refl _ _⟩
  · have HR : Hid (chkR rs = chkS rs) := if_neg h8
    have h8d : decide (8 < rs.length) = false := decide_eq_false h8
    go_enter Tryd.func22, Tryd.ntmps22
    go_wp2_with fail
    clear h8d
    go_loopw [11] (fun i wr => ∃ (k : Nat), k ≤ rs.length ∧ i = .int .i64 k ∧ Hid (chkR rs = chkS (rs.drop k)) ∧ Hid (Below w.heap.size w wr)) (fun i _ => rs.length - (intOf i).toNat)
    case atStart => exact ⟨0, Nat.zero_le _, rfl, HR, Below.refl _ _⟩
    case round =>
      obtain ⟨k, hkl, rfl, HS, HB⟩ := hrel
      by_cases hlt : k < rs.length
      · obtain ⟨b1, o1, rfl, hb1, hts⟩ := h3.out (by omega)
        have hra := (hts k hlt).keep hb1 HB.out.size (fun p hp => HB.out.cell hp)
        have hcn := HC.out k hlt
        have hdr := chkS_drop rs k hlt
        obtain ⟨r, hr⟩ : ∃ r, r = rs[k] := ⟨_, rfl⟩
        rw [← hr] at hra hcn hdr
        clear hts hr
        obtain ⟨ops, c⟩ := r
        obtain ⟨g0, hca⟩ := hra
        obtain ⟨A2, c2, g1, g2, g3, hu⟩ := hca.cells
        simp only at g0 g1 g2 g3 hu hcn hdr
        have hba := alloc_below wr (Obj.cells #[Value.int IntKind.i64 ops, Value.int IntKind.i64 c.op, Value.int IntKind.i64 c.n, Value.slice A2 c.kids.length c2] 53)
        have HV := Lib.hid (pchk_any c _ _ (hu.on hba) ((HT.out.on HB.out).on hba) hcn)
        have HDR := Lib.hid hdr
        have HBA := Lib.hid hba
        clear hdr hba hca hu
        by_cases ho1 : 1 ≤ ops
        · by_cases ho2 : ops ≤ 255
          · have HO : Hid (opsB ops = true) := by show _ = _; simp [opsB, ho1, ho2]
            have hd1 : decide (ops < 1) = false := decide_eq_false (by omega)
            have hd2 : decide (255 < ops) = false := decide_eq_false (by omega)
            generalize chkC 1 3 c = E at *
            by_cases he : E = 0
            · subst he
              go_wp2_with fail
              refine HV.out.mono ?_
              rintro e w2 ⟨rfl, hb2⟩
              have HB2 := Lib.hid (HB.out.trans ((HBA.out.trans (hb2.mono HBA.out.size)).mono HB.out.size))
              clear hb2
              go_wp2_with fail
              go_roundw
              case rel => exact ⟨k + 1, by omega, by go_num, by show _ = _; rw [HS.out, HDR.out, HO.out]; simp, HB2⟩
              case measure => simp [intOf]; omega
            · have he1 : (E != 0) = true := by simpa using he
              have he2 : (E == 0) = false := by simpa using he
              have he3 : decide (E = 0) = false := decide_eq_false he
              go_wp2_with fail
              refine HV.out.mono ?_
              rintro e w2 ⟨rfl, hb2⟩
              have HB2 := Lib.hid (HB.out.trans ((HBA.out.trans (hb2.mono HBA.out.size)).mono HB.out.size))
              clear hb2
              go_wp2_with fail
              go_ret
              exact ⟨ret_int (by rw [HS.out, HDR.out, HO.out]; simp [he]), HB2.out⟩
          · have HO : Hid (opsB ops = false) := by show _ = _; simp [opsB, ho2]
            have hd1 : decide (ops < 1) = false := decide_eq_false (by omega)
            have hgt : 255 < ops := by omega
            go_wp2_with fail
            go_ret
            exact ⟨ret_int (by rw [HS.out, HDR.out, HO.out]; simp), HB.out.trans (HBA.out.mono HB.out.size)⟩
        · have HO : Hid (opsB ops = false) := by show _ = _; simp [opsB, ho1]
          have hlt1 : ops < 1 := by omega
          go_wp2_with fail
          go_ret
          exact ⟨ret_int (by rw [HS.out, HDR.out, HO.out]; simp), HB.out.trans (HBA.out.mono HB.out.size)⟩
      · have HS2 : Hid (chkR rs = 0) := by show _ = _; rw [HS.out, show k = rs.length by omega, List.drop_length, chkS]
        go_wp2_with fail
        go_ret
        exact ⟨ret_int HS2.out.symm, HB.out⟩
end Go.Proofs.YtjkbfogjfgnhiaaDoor
