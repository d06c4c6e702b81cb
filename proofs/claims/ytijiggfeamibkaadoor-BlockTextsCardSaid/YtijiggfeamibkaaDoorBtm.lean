/-
  The mathematics of a block's line.
-/
import Derived.Test.YtijiggfeamibkaaDoorJns
namespace Go.Proofs.YtijiggfeamibkaaDoor
set_option linter.unusedVariables false
set_option linter.unusedSimpArgs false
open Go.RowKit

def infT (l : List UInt8) : List UInt8 := if l = [] then [45] else hexL l
def nmR (c : Int) : List UInt8 := if c = 0 then [102, 105, 110, 101] else if c = 1 then [115, 117, 109] else [111, 116, 104, 101, 114]
def nmS (c : Int) : List UInt8 := if c = 0 then [114, 101, 115, 121, 110, 99] else if c = 1 then [105, 102, 115] else if c = 2 then [97, 98, 111, 114, 116] else [119, 116, 120]
def wdI (m : Bool) : List UInt8 := if m then [109, 111, 114, 101] else [108, 97, 115, 116]
def wdS (a : Bool) : List UInt8 := if a then [97, 110, 115, 119, 101, 114] else [114, 101, 113, 117, 101, 115, 116]
def nadL (n : Int) : List UInt8 := hexL [UInt8.ofNat n.toNat]
def lineK (n : Int) : Kd → List UInt8 → List UInt8
  | .inf s m, l => jn [[73], nadL n, decF s.toNat, wdI m, infT l]
  | .rdy s c, _ => jn [[82], nadL n, decF s.toNat, nmR c]
  | .sup c a, l => jn [[83], nadL n, nmS c, wdS a, infT l]
/-- The text of a block. -/
def txtB (b : Bk) : List UInt8 := if chkB b = 0 then lineK b.nad (kdOf b) b.inf else []

theorem hexL_inj2 {l m : List UInt8} (h : hexL l = hexL m) : l = m := by rw [← pairs_hexL l, h, pairs_hexL]
theorem infT_inj {l m : List UInt8} (h : infT l = infT m) : l = m := by
  unfold infT at h
  have k1 := hexL_length l
  have k2 := hexL_length m
  split at h
  · split at h
    · rename_i e1 e2
      rw [e1, e2]
    · rw [← h] at k2
      simp at k2
      omega
  · split at h
    · rw [h] at k1
      simp at k1
      omega
    · exact hexL_inj2 h
theorem nadL_len (n : Int) : (nadL n).length = 2 := by rw [nadL, hexL_length]; rfl
theorem nad_inj {n m : Int} (hn : okNad n = true) (hm : okNad m = true) (h : nadL n = nadL m) : n = m := by
  have e := hexL_inj2 h
  simp only [okNad, Bool.and_eq_true, decide_eq_true_eq] at hn hm
  have e2 : UInt8.ofNat n.toNat = UInt8.ofNat m.toNat := by simpa using e
  have e3 := congrArg UInt8.toNat e2
  rw [byte_toNat (show n.toNat < 256 by omega), byte_toNat (show m.toNat < 256 by omega)] at e3
  omega
theorem cut_nad {n m : Int} {x y : UInt8} {r s : List UInt8} (hn : okNad n = true) (hm : okNad m = true) (h : x :: 32 :: (nadL n ++ r) = y :: 32 :: (nadL m ++ s)) : x = y ∧ n = m ∧ r = s := by
  simp only [List.cons.injEq, true_and] at h
  obtain ⟨h0, h1⟩ := h
  have := List.append_inj h1 (by rw [nadL_len, nadL_len])
  exact ⟨h0, nad_inj hn hm this.1, this.2⟩
theorem line_inf (n s : Int) (m : Bool) (l : List UInt8) : lineK n (.inf s m) l = 73 :: 32 :: (nadL n ++ (32 :: (decF s.toNat ++ 32 :: (wdI m ++ 32 :: infT l)))) := by simp [lineK, jn]
theorem line_rdy (n s c : Int) (l : List UInt8) : lineK n (.rdy s c) l = 82 :: 32 :: (nadL n ++ (32 :: (decF s.toNat ++ 32 :: nmR c))) := by simp [lineK, jn]
theorem line_sup (n c : Int) (a : Bool) (l : List UInt8) : lineK n (.sup c a) l = 83 :: 32 :: (nadL n ++ (32 :: (nmS c ++ 32 :: (wdS a ++ 32 :: infT l)))) := by simp [lineK, jn]
theorem line_ne (n : Int) (k : Kd) (l : List UInt8) : lineK n k l ≠ [] := by
  cases k
  · rw [line_inf]; simp
  · rw [line_rdy]; simp
  · rw [line_sup]; simp
theorem decF_bit {s t : Int} (hs : isBit s = true) (ht : isBit t = true) {r q : List UInt8} (h : decF s.toNat ++ r = decF t.toNat ++ q) : s = t ∧ r = q := by
  rcases bit_cases hs with rfl | rfl <;> rcases bit_cases ht with rfl | rfl <;> simp [decF] at h ⊢ <;> exact h
theorem line_inj {n m : Int} {k j : Kd} {l r : List UInt8} (hn : okNad n = true) (hm : okNad m = true) (hk : k.rng = true) (hj : j.rng = true) (hl : k.infE l = 0) (hr : j.infE r = 0) (h : lineK n k l = lineK m j r) : n = m ∧ k = j ∧ l = r := by
  cases k with
  | inf s x =>
    cases j with
    | inf t y =>
      rw [line_inf, line_inf] at h
      obtain ⟨_, e1, e2⟩ := cut_nad hn hm h
      simp only [List.cons.injEq, true_and] at e2
      obtain ⟨e3, e4⟩ := decF_bit (by simpa [Kd.rng] using hk) (by simpa [Kd.rng] using hj) e2
      simp only [List.cons.injEq, true_and] at e4
      cases x <;> cases y <;> simp [wdI] at e4
      · exact ⟨e1, by rw [e3], infT_inj e4⟩
      · exact ⟨e1, by rw [e3], infT_inj e4⟩
    | rdy t y => rw [line_inf, line_rdy] at h; simp at h
    | sup t y => rw [line_inf, line_sup] at h; simp at h
  | rdy s x =>
    cases j with
    | inf t y => rw [line_rdy, line_inf] at h; simp at h
    | rdy t y =>
      rw [line_rdy, line_rdy] at h
      obtain ⟨_, e1, e2⟩ := cut_nad hn hm h
      simp only [List.cons.injEq, true_and] at e2
      simp only [Kd.rng, Bool.and_eq_true] at hk hj
      obtain ⟨e3, e4⟩ := decF_bit hk.1 hj.1 e2
      simp only [List.cons.injEq, true_and] at e4
      have hl0 : l = [] := by simp only [Kd.infE, emptyE] at hl; by_cases h0 : l.length = 0 <;> simp_all
      have hr0 : r = [] := by simp only [Kd.infE, emptyE] at hr; by_cases h0 : r.length = 0 <;> simp_all
      rcases rc_cases hk.2 with rfl | rfl | rfl <;> rcases rc_cases hj.2 with rfl | rfl | rfl <;> simp [nmR] at e4 <;> exact ⟨e1, by rw [e3], by rw [hl0, hr0]⟩
    | sup t y => rw [line_rdy, line_sup] at h; simp at h
  | sup s x =>
    cases j with
    | inf t y => rw [line_sup, line_inf] at h; simp at h
    | rdy t y => rw [line_sup, line_rdy] at h; simp at h
    | sup t y =>
      rw [line_sup, line_sup] at h
      obtain ⟨_, e1, e2⟩ := cut_nad hn hm h
      simp only [List.cons.injEq, true_and] at e2
      simp only [Kd.rng] at hk hj
      rcases sc_cases hk with rfl | rfl | rfl | rfl <;> rcases sc_cases hj with rfl | rfl | rfl | rfl <;> simp [nmS] at e2 <;> (cases x <;> cases y <;> simp [wdS] at e2 <;> exact ⟨e1, rfl, infT_inj e2⟩)
theorem txt_inj {a b : Bk} (h : txtB a = txtB b) (hne : txtB a ≠ []) : a = b := by
  have ha : chkB a = 0 := by
    by_cases h0 : chkB a = 0
    · exact h0
    · rw [txtB, if_neg h0] at hne
      exact absurd rfl hne
  have hb : chkB b = 0 := by
    by_cases h0 : chkB b = 0
    · exact h0
    · rw [h, txtB, if_neg h0] at hne
      exact absurd rfl hne
  rw [txtB, txtB, if_pos ha, if_pos hb] at h
  obtain ⟨a1, a2, a3, a4, _⟩ := chk_ok ha
  obtain ⟨b1, b2, b3, b4, _⟩ := chk_ok hb
  obtain ⟨e1, e2, e3⟩ := line_inj a1 b1 a2 b2 a4 b4 h
  rw [a3, b3, e1, e2, e3]
end Go.Proofs.YtijiggfeamibkaaDoor
