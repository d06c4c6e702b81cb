/-
  Mathematics of P4.8: what is encoded is decoded as it was, what is decoded is encoded as it was.
-/
import Derived.Test.YtjoibonbmalbdaaDecb
namespace Go.Proofs.Ytjoibonbmalbdaa
open Go.RowKit

theorem lenL_pos (n : Nat) (b : Bool) (h : n ≠ 0) : lenL n b = putL (n % 256 ^ widN b) (widN b) := by rw [lenL, if_neg h]
theorem lenL_length (n : Nat) (b : Bool) : (lenL n b).length = if n = 0 then 0 else widN b := by
  unfold lenL
  split
  · rfl
  · rw [putL_length]
theorem putL_mod (n k : Nat) : numL (putL (n % 256 ^ k) k) = n % 256 ^ k := by rw [numL_putL, Nat.mod_mod]
theorem leN_put (n : Nat) (k : Nat) (h0 : n ≠ 0) (h : n ≤ 256 ^ k) : leN (putL (n % 256 ^ k) k) = (n : Int) := by
  unfold leN
  rw [putL_mod, putL_length]
  by_cases he : n = 256 ^ k
  · rw [he, Nat.mod_self, if_pos rfl]
  · rw [Nat.mod_eq_of_lt (by omega), if_neg h0]
/-- What is laid down of a body reads back. -/
theorem bodyL_enc (d : List UInt8) (le : Nat) (b : Bool) (hd : d.length < 256 ^ widN b) (hle : le ≤ 256 ^ widN b) :
    bodyL (widN b) (lenL d.length b ++ (d ++ lenL le b)) = (d, (le : Int), 0) := by
  have hW : 1 ≤ widN b := by cases b <;> decide
  generalize hw : widN b = W at *
  by_cases h0 : d.length = 0
  · have hdn : d = [] := List.eq_nil_of_length_eq_zero h0
    subst hdn
    by_cases hl : le = 0
    · subst hl
      simp [lenL, bodyL]
    · have e : lenL ([] : List UInt8).length b ++ ([] ++ lenL le b) = putL (le % 256 ^ W) W := by
        rw [lenL_pos le b hl, hw]; simp [lenL]
      rw [e, bodyL, putL_length, if_neg (by omega), if_neg (by omega), if_pos rfl, leN_put le W hl hle]
  · have e1 : lenL d.length b = putL d.length W := by rw [lenL_pos _ b h0, hw, Nat.mod_eq_of_lt hd]
    have ht : (lenL d.length b ++ (d ++ lenL le b)).take W = putL d.length W := by
      rw [e1, List.take_append_of_le_length (by rw [putL_length]; omega), List.take_of_length_le (by rw [putL_length]; omega)]
    have hdr : (lenL d.length b ++ (d ++ lenL le b)).drop W = d ++ lenL le b := by
      rw [e1, List.drop_append_of_le_length (by rw [putL_length]; omega), List.drop_of_length_le (by rw [putL_length]; omega), List.nil_append]
    have hn : numL (putL d.length W) = d.length := by rw [numL_putL, Nat.mod_eq_of_lt hd]
    have hlen : (lenL d.length b ++ (d ++ lenL le b)).length = W + (d.length + (lenL le b).length) := by rw [e1, List.length_append, putL_length, List.length_append]
    have hll : (lenL le b).length = if le = 0 then 0 else W := by rw [lenL_length, hw]
    rw [bodyL, ht, hdr, hn, hlen, List.length_append, if_neg (by omega), if_neg (by omega), if_neg (by omega), if_neg h0, if_neg (by omega)]
    by_cases hl : le = 0
    · subst hl
      rw [if_pos rfl] at hll
      rw [if_pos (by omega)]
      simp [lenL]
    · rw [if_neg hl] at hll
      rw [if_neg (by omega), if_pos (by omega), List.take_left, List.drop_left, lenL_pos le b hl, hw, leN_put le W hl hle]

theorem u8_back (n : Int) (h : 0 ≤ n ∧ n ≤ 255) : ((UInt8.ofNat n.toNat).toNat : Int) = n := by
  rw [UInt8.toNat_ofNat']
  omega

/-- What a command that passes Check gives is read back as it was. -/
theorem dec_enc (c : Cm) (h : chkC c = 0) : decE (encL c) = 0 ∧ decV (encL c) = c := by
  obtain ⟨cla, ins, p1, p2, d, le, b⟩ := c
  have h' := h
  unfold chkC at h'
  split at h'
  · exact absurd h' (by decide)
  rename_i hb
  split at h'
  · exact absurd h' (by decide)
  split at h'
  · exact absurd h' (by decide)
  rename_i hd
  split at h'
  · exact absurd h' (by decide)
  rename_i hl
  split at h'
  · exact absurd h' (by decide)
  rename_i hem
  simp only [bytesC, Bool.and_eq_false_iff, Bool.not_eq_false, not_or] at hb
  obtain ⟨⟨⟨q0, q1⟩, q2⟩, q3⟩ := hb
  have q0 := isB_yes q0
  have q1 := isB_yes q1
  have q2 := isB_yes q2
  have q3 := isB_yes q3
  simp only [leC, Bool.or_eq_true, decide_eq_true_eq, not_or] at hl
  simp only [emptyC, Bool.and_eq_true, decide_eq_true_eq, not_and] at hem
  obtain ⟨m, rfl⟩ := Int.eq_ofNat_of_zero_le (show 0 ≤ le by omega)
  have hD : d.length < 256 ^ widN b := by cases b <;> simp [maxD, widN] at hd ⊢ <;> omega
  have hL : m ≤ 256 ^ widN b := by cases b <;> simp [maxL, widN] at hl ⊢ <;> omega
  have hbody := bodyL_enc d m b hD hL
  have hlong : longB (encL ⟨cla, ins, p1, p2, d, (m : Int), b⟩) = b := by
    cases b
    · by_cases h0 : d.length = 0
      · have hdn : d = [] := List.eq_nil_of_length_eq_zero h0
        subst hdn
        have : (lenL m false).length ≤ 1 := by rw [lenL_length]; split <;> decide
        simp [longB, encL, markL, lenL] at *
        intro h5
        split at h5
        · simp at h5
        · rw [putL_length] at h5; simp [widN] at h5
      · have hlt : d.length < 256 := hD
        have e1 : lenL d.length false = [UInt8.ofNat d.length] := by
          rw [lenL_pos _ _ h0, Nat.mod_eq_of_lt hD]
          simp [widN, putL]
        have hne : (UInt8.ofNat d.length == 0) = false := by
          rw [beq_eq_false_iff_ne]
          intro hz
          have := congrArg UInt8.toNat hz
          rw [UInt8.toNat_ofNat'] at this
          simp at this
          omega
        simp [longB, encL, markL, e1, hne]
    · have h1 : 0 < (lenL d.length true ++ (d ++ lenL m true)).length := by
        rw [List.length_append, List.length_append, lenL_length, lenL_length]
        by_cases h0 : d.length = 0
        · have hm : m ≠ 0 := fun hm => (chk_parts h).2.2.2.2.2 rfl ⟨h0, by simp [hm]⟩
          have hw : 1 ≤ widN true := by decide
          rw [if_neg hm]; omega
        · omega
      simp [longB, encL, markL] at h1 ⊢
      omega
  have hrest : restL (encL ⟨cla, ins, p1, p2, d, (m : Int), b⟩) = lenL d.length b ++ (d ++ lenL m b) := by
    unfold restL
    rw [hlong]
    cases b <;> simp [encL, markL]
  have hread : readC (encL ⟨cla, ins, p1, p2, d, (m : Int), b⟩) = ⟨cla, ins, p1, p2, d, (m : Int), b⟩ := by
    unfold readC
    rw [hlong, hrest, hbody]
    simp [encL, Int.max_eq_left q0.1, Int.max_eq_left q1.1, Int.max_eq_left q2.1, Int.max_eq_left q3.1]
    omega
  have hE : decE (encL ⟨cla, ins, p1, p2, d, (m : Int), b⟩) = 0 := by
    unfold decE
    rw [if_neg (by simp [encL]), hlong, hrest, hbody, hread, h]
    simp
  exact ⟨hE, by rw [decV, if_pos hE, hread]⟩

theorem putL_numL (l : List UInt8) : putL (numL l) l.length = l := by
  induction l with
  | nil => rfl
  | cons x xs ih =>
    have hb := numL_bound xs
    have hp : 0 < 256 ^ xs.length := Nat.pow_pos (by omega)
    have h1 : numL (x :: xs) / 256 ^ xs.length = x.toNat := by
      rw [numL_head, Nat.mul_comm, Nat.mul_add_div hp, Nat.div_eq_of_lt hb, Nat.add_zero]
    have h2 : ∀ (k : Nat) (a b : Nat), a % 256 ^ k = b % 256 ^ k → putL a k = putL b k := by
      intro k
      induction k with
      | zero => intros; rfl
      | succ k ihk =>
        intro a b he
        have e1 : a % 256 ^ k = b % 256 ^ k := by
          have := congrArg (· % 256 ^ k) he
          simp only [Nat.pow_succ, Nat.mod_mul_right_mod] at this
          exact this
        have e2 : a / 256 ^ k % 256 = b / 256 ^ k % 256 := by
          have := congrArg (· / 256 ^ k) he
          simp only [Nat.pow_succ, Nat.mod_mul_right_div_self] at this
          exact this
        rw [putL, putL, ihk a b e1]
        congr 1
        apply UInt8.toNat_inj.mp
        rw [UInt8.toNat_ofNat', UInt8.toNat_ofNat']
        exact e2
    rw [List.length_cons, putL, h1]
    rw [h2 xs.length (numL (x :: xs)) (numL xs) (by rw [numL_head, Nat.mul_comm, Nat.mul_add_mod]), ih]
    simp
/-- What was read of a body is laid down as it was. -/
theorem bodyL_back (b : Bool) (l : List UInt8) (h : (bodyL (widN b) l).2.2 = 0) :
    lenL (bodyL (widN b) l).1.length b ++ ((bodyL (widN b) l).1 ++ lenL (bodyL (widN b) l).2.1.toNat b) = l := by
  have hW : 1 ≤ widN b := by cases b <;> decide
  have key : ∀ m : List UInt8, m.length = widN b → lenL (leN m).toNat b = m := by
    intro m hm
    have hb := numL_bound m
    have hp : 0 < 256 ^ m.length := Nat.pow_pos (by omega)
    have hpm := putL_numL m
    rw [hm] at hb hp hpm
    unfold leN
    rw [hm]
    by_cases hz : numL m = 0
    · rw [if_pos hz, Int.toNat_natCast, lenL_pos _ b (by omega), Nat.mod_self, ← hz, hpm]
    · rw [if_neg hz, Int.toNat_natCast, lenL_pos _ b hz, Nat.mod_eq_of_lt hb, hpm]
  revert h
  unfold bodyL
  split
  · rename_i h0
    intro _
    have : l = [] := List.eq_nil_of_length_eq_zero h0
    subst this
    simp [lenL]
  split
  · intro h; exact absurd h (by decide)
  split
  · rename_i h2
    intro _
    simp only [List.length_nil, List.nil_append]
    rw [key l h2]
    simp [lenL]
  split
  · intro h; exact absurd h (by decide)
  rename_i z0 z1 z2 hn
  have htl : (l.take (widN b)).length = widN b := by rw [List.length_take]; omega
  have hhead : ∀ n : Nat, n = numL (l.take (widN b)) → lenL n b = l.take (widN b) := by
    intro n hn'
    have hb := numL_bound (l.take (widN b))
    have hpm := putL_numL (l.take (widN b))
    rw [htl] at hb hpm
    subst hn'
    rw [lenL_pos _ b hn, Nat.mod_eq_of_lt hb, hpm]
  split
  · intro h; exact absurd h (by decide)
  split
  · rename_i h4
    intro _
    simp only [hhead _ h4]
    simp [lenL]
  split
  · rename_i h5
    intro _
    have e1 : ((l.drop (widN b)).take (numL (l.take (widN b)))).length = numL (l.take (widN b)) := by rw [List.length_take]; omega
    have e2 : ((l.drop (widN b)).drop (numL (l.take (widN b)))).length = widN b := by rw [List.length_drop]; omega
    simp only [hhead _ e1, key _ e2]
    rw [List.take_append_drop, List.take_append_drop]
  · intro h; exact absurd h (by decide)

/-- What Decode reads is encoded as it was. -/
theorem enc_dec (l : List UInt8) (h : decE l = 0) : chkC (decV l) = 0 ∧ encL (decV l) = l := by
  have hv : decV l = readC l := by rw [decV, if_pos h]
  rw [hv]
  unfold decE at h
  split at h
  · exact absurd h (by decide)
  rename_i h4
  split at h
  · rename_i hne; exact absurd h hne
  rename_i hb
  have hb' := bodyL_back (longB l) (restL l) (by simpa using hb)
  refine ⟨h, ?_⟩
  unfold encL readC
  simp only [hb']
  rcases l with _ | ⟨x0, _ | ⟨x1, _ | ⟨x2, _ | ⟨x3, r⟩⟩⟩⟩
  · simp at h4
  · simp at h4
  · simp at h4
  · simp at h4
  cases hl : longB (x0 :: x1 :: x2 :: x3 :: r)
  · simp [restL, hl, markL]
  · rcases r with _ | ⟨y, r⟩
    · simp [longB] at hl
    · have hy : y = 0 := by simp [longB] at hl; exact hl.2
      subst hy
      simp [restL, hl, markL]
theorem encL_length (c : Cm) (h : c.data.length ≤ 70000) : (encL c).length ≤ 80000 := by
  have h1 : ∀ n : Nat, (lenL n c.long).length ≤ 2 := by
    intro n
    rw [lenL_length]
    split
    · omega
    · cases c.long <;> decide
  have h2 : (markL c.long).length ≤ 1 := by cases c.long <;> decide
  have h3 := h1 c.data.length
  have h4 := h1 c.le.toNat
  simp only [encL, List.length_append, List.length_cons, List.length_nil]
  omega
end Go.Proofs.Ytjoibonbmalbdaa
