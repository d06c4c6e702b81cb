/-
  The walk of Left, and what it bounds.
-/
import Derived.Test.YtahnmnbjgbfeaaaWrk
namespace Go.Proofs.Ytahnmnbjgbfeaaa
set_option linter.unusedVariables false
set_option linter.unusedSimpArgs false
open Go.RowKit

mutual
def T.left : T → Int → Int
  | .mk _ val kids, b => if b < val.length then -1 else leftL kids (b - val.length - 1)
/-- What Left answers. -/
def leftL : List T → Int → Int
  | [], b => b
  | t :: ts, b => if b < 0 then b else leftL ts (t.left b)
end
mutual
def T.wt : T → Nat | .mk _ val kids => val.length + 1 + wtL kids
/-- The objects and bytes of a list. -/
def wtL : List T → Nat | [] => 0 | t :: ts => t.wt + wtL ts
end
theorem left_parts (t : T) (b : Int) : t.left b = if b < t.val.length then -1 else leftL t.kids (b - t.val.length - 1) := by cases t; rw [T.left]; rfl
theorem wt_parts (t : T) : t.wt = t.val.length + 1 + wtL t.kids := by cases t; rw [T.wt]; rfl
theorem leftL_neg (ts : List T) (b : Int) (h : b < 0) : leftL ts b = b := by cases ts <;> rw [leftL]; rw [if_pos h]
mutual
theorem T.left_range : ∀ (t : T) (b : Int), -1 ≤ b → b ≤ 6000 → -1 ≤ t.left b ∧ t.left b ≤ 6000 ∧ (0 ≤ t.left b → t.left b = b - (t.wt : Int))
  | .mk tag val kids, b, h1, h2 => by
    rw [T.left, T.wt]
    by_cases h : b < val.length
    · rw [if_pos h]; omega
    · rw [if_neg h]
      have := leftL_range kids (b - val.length - 1) (by omega) (by omega)
      omega
theorem leftL_range : ∀ (ts : List T) (b : Int), -1 ≤ b → b ≤ 6000 → -1 ≤ leftL ts b ∧ leftL ts b ≤ 6000 ∧ (0 ≤ leftL ts b → leftL ts b = b - (wtL ts : Int))
  | [], b, h1, h2 => by rw [leftL, wtL]; omega
  | t :: ts, b, h1, h2 => by
    rw [leftL, wtL]
    by_cases h : b < 0
    · rw [if_pos h]; omega
    · rw [if_neg h]
      have a1 := T.left_range t b h1 h2
      have a2 := leftL_range ts (t.left b) a1.1 a1.2.1
      by_cases hn : t.left b < 0
      · rw [leftL_neg ts _ hn] at a2 ⊢; omega
      · omega
end
theorem leftL_drop (ts : List T) (k : Nat) (h : k < ts.length) (b : Int) (hb : 0 ≤ b) : leftL (ts.drop k) b = leftL (ts.drop (k + 1)) ((ts[k]).left b) := by
  rw [List.drop_eq_getElem_cons h, leftL, if_neg (by omega)]

theorem TL.more {w : World} {B B' : Nat} {v : Value} {ts : List T} (h : TL w B v ts) (hB : B ≤ B') : TL w B' v ts := h.keep hB fun _ _ => rfl

def LeftC (ts : List T) : Prop := ∀ (v : Value) (b : Int) (w : World), -1 ≤ b → b ≤ 6000 → TL w w.heap.size v ts →
  Calls Try.prog 59 #[v, .int .i64 b] w fun e w' => e = .returned (.int .i64 (leftL ts b)) ∧ Below w.heap.size w w'

set_option maxRecDepth 100000 in
set_option maxHeartbeats 3200000 in
theorem left_step (ts : List T) (ih : ∀ (ts' : List T), depL ts' < depL ts → LeftC ts') : LeftC ts := by
  intro v b0 w hb1 hb2 hv
  have IH := Lib.hid ih
  clear ih
  obtain ⟨A, c, rfl, h1, h2, h3⟩ := hv
  unfold maxLen at h2
  go_enter Try.func59, Try.ntmps59
  go_wp2_with fail
  go_loopw [1, 5] (fun bv i wr => ∃ (k : Nat) (b : Int), k ≤ ts.length ∧ i = .int .i64 k ∧ bv = .int .i64 b ∧ -1 ≤ b ∧ b ≤ 6000 ∧ Hid (leftL ts b0 = leftL (ts.drop k) b) ∧ Below w.heap.size w wr) (fun _ i _ => ts.length - (intOf i).toNat)
  case atStart => exact ⟨0, b0, Nat.zero_le _, rfl, rfl, hb1, hb2, rfl, Below.refl _ _⟩
  case round =>
    obtain ⟨k, b, hk, rfl, rfl, r1, r2, hlf, hbel⟩ := hrel
    by_cases hkl : k < ts.length
    · by_cases hb0 : 0 ≤ b
      · obtain ⟨bt, o, rfl, hb, hts⟩ := h3.out (by omega)
        have hta := TsAt.get hts hkl
        have hdp := depL_get ts k hkl
        have hst := hlf.out.trans (leftL_drop ts k hkl b hb0)
        obtain ⟨t, ht⟩ : ∃ t, t = ts[k] := ⟨_, rfl⟩
        rw [← ht] at hta hdp hst
        rw [← dep_kids] at hdp
        have hih := IH.out t.kids (by omega)
        unfold LeftC at hih
        have hta' := TAt.keep hbel.size (fun p hp => hbel.cell hp) t bt _ hb hta
        obtain ⟨A1, c1, A2, c2, g1, g2, g3, hv1, hu1⟩ := hta'.cells
        have hsz := hbel.size
        have hlp := left_parts t b
        have hrg := T.left_range t b r1 r2
        have hrk := leftL_range t.kids (b - t.val.length - 1)
        obtain ⟨V, hV⟩ : ∃ x, x = t.val.length := ⟨_, rfl⟩
        rw [← hV] at g2 hlp hrk
        obtain ⟨M, hM⟩ : ∃ x, x = t.kids.length := ⟨_, rfl⟩
        rw [← hM] at g3 hu1
        have hlv : V < 1000000000 ∨ 1000000000 ≤ V := by omega
        have HST := Lib.hid hst
        have HRG := Lib.hid hrg
        clear hts hta hta' ht hdp hst hrg hv1 hV hM hlf
        by_cases hbig : b < (V : Int)
        · have hr : Hid (leftL ts b0 = -1) := by
            show _ = _
            rw [HST.out, hlp, if_pos hbig, leftL_neg _ _ (by omega)]
          clear hlp hrk
          go_wp2_with fail
          go_ret
          refine ⟨?_, hbel⟩
          rw [hr.out]
          rfl
        · rw [if_neg hbig] at hlp
          obtain ⟨Z, hZ⟩ : ∃ Z, Z = leftL t.kids (b - (V : Int) - 1) := ⟨_, rfl⟩
          rw [← hZ] at hlp
          have hz := HRG.out
          rw [hlp] at hz
          have hz1 := hz.1
          have hz2 := hz.2.1
          have hcall := fun W hu => hih (.slice A2 M c2) (b - (V : Int) - 1) W (by omega) (by omega) hu
          simp only [← hZ] at hcall
          have HCALL := Lib.hid hcall
          have HU := Lib.hid (hu1.on ((Below.refl wr.heap.size wr).drew))
          have HLP := Lib.hid hlp
          clear hlp hrk hZ hcall hih hz hu1
          have i1 : (0 : Int) ≤ (k : Int) := by omega
          have i2 : (k : Int) < (ts.length : Int) := by omega
          go_wp2_with fail
          have w1 : IntKind.i64.wrap (b - (V : Int)) = b - (V : Int) := IntWalk.i64_in _ (by omega)
          have w2 : IntKind.i64.wrap (b - (V : Int) - 1) = b - (V : Int) - 1 := IntWalk.i64_in _ (by omega)
          go_region_held3 (fun w' => w'.cell? ⟨bt, o + k * 3 + 1, none⟩ = some (.slice A1 V c1) ∧ w'.cell? ⟨bt, o + k * 3 + 2, none⟩ = some (.slice A2 M c2))
            (first
              | (go_keep; done)
              | exact ⟨(hbx.cell (p := ⟨bt, o + k * 3 + 1, none⟩) (show bt < wr.heap.size by omega)).trans g2, (hbx.cell (p := ⟨bt, o + k * 3 + 2, none⟩) (show bt < wr.heap.size by omega)).trans g3⟩)
            (first
              | (go_at_call 59; (with_reducible refine (HCALL.out _ HU.out).mono ?_); rintro e wx ⟨rfl, hbx⟩))
          clear w1 w2
          go_wp2_with fail
          go_roundw
          case rel =>
            refine ⟨k + 1, Z, by omega, by go_num, rfl, hz1, hz2, ?_, hbel.trans (((Below.refl wr.heap.size wr).drew.trans hbx).mono hsz)⟩
            show _ = _
            rw [HST.out, HLP.out]
          case measure => simp [intOf]; omega
      · have hr : Hid (leftL ts b0 = b) := by
          show _ = _
          rw [hlf.out, leftL_neg _ _ (by omega)]
        have hneg : b < 0 := by omega
        go_wp2_with fail
        go_ret
        refine ⟨?_, hbel⟩
        rw [hr.out]
        rfl
    · have hr : Hid (leftL ts b0 = b) := by
        show _ = _
        rw [hlf.out, show k = ts.length by omega, List.drop_length, leftL]
      go_wp2_with fail
      go_ret
      refine ⟨?_, hbel⟩
      rw [hr.out]
      rfl
theorem left_any : ∀ (n : Nat) (ts : List T), depL ts < n → LeftC ts
  | 0, ts, h => absurd h (by omega)
  | n + 1, ts, h => left_step ts fun ts' h' => left_any n ts' (by omega)

set_option maxRecDepth 100000 in
theorem few_any (ts : List T) (v : Value) (w : World) (hv : TL w w.heap.size v ts) :
    Calls Try.prog 49 #[v] w fun e w' => e = .returned (.bool (decide (0 ≤ leftL ts 6000))) ∧ Below w.heap.size w w' := by
  have h := left_any (depL ts + 1) ts (by omega) v 6000 w (by omega) (by omega) hv
  obtain ⟨A, c, rfl, h1, h2, h3⟩ := hv
  obtain ⟨Z, hZ⟩ : ∃ Z, Z = leftL ts 6000 := ⟨_, rfl⟩
  rw [← hZ] at h ⊢
  have H := Lib.hid h
  clear h hZ
  go_enter Try.func49, Try.ntmps49
  go_wp2_with (go_at_call 59; refine H.out.mono ?_; rintro e w2 ⟨rfl, hb2⟩)
  all_goals
    go_ret
    exact ⟨rfl, hb2⟩

theorem tagF_length (t : Int) : (tagF t).length ≤ 2 := by unfold tagF; split <;> simp [putL_length]
theorem lenF_length (n : Nat) : (lenF n).length ≤ 3 := by unfold lenF; split <;> (try split) <;> simp
mutual
theorem T.enc_wt : ∀ t : T, t.enc.length ≤ 6 * t.wt
  | .mk tag val kids => by
    have h := encL_wt kids
    have h1 := tagF_length tag
    have h2 := lenF_length (val ++ encL kids).length
    rw [T.enc, T.wt]
    simp only [List.length_append] at h2 ⊢
    omega
theorem encL_wt : ∀ ts : List T, (encL ts).length ≤ 6 * wtL ts
  | [] => by simp [encL]
  | t :: ts => by
    have h1 := T.enc_wt t
    have h2 := encL_wt ts
    rw [encL, wtL, List.length_append]
    omega
end
theorem few_enc (ts : List T) (h : 0 ≤ leftL ts 6000) : (encL ts).length ≤ 100000 := by
  have h1 := leftL_range ts 6000 (by omega) (by omega)
  have h2 := encL_wt ts
  have h3 := h1.2.2 h
  omega

set_option maxRecDepth 100000 in
theorem psize_any (ts : List T) (v : Value) (w : World) (hv : TL w w.heap.size v ts) (hs : (encL ts).length ≤ 100000) :
    Calls Try.prog 52 #[v] w fun e w' => e = .returned (.int .i64 ((encM ts).length : Int)) ∧ Below w.heap.size w w' := by
  have H := Lib.hid (pencode_any ts v w hv hs)
  clear hv hs
  go_enter Try.func52, Try.ntmps52
  go_wp2_with (go_at_call 50; refine H.out.mono ?_; rintro e w2 ⟨v2, rfl, hv2, hb2⟩; obtain ⟨A2, c2, rfl, _⟩ := id hv2)
  go_ret
  exact ⟨rfl, hb2⟩
end Go.Proofs.Ytahnmnbjgbfeaaa
