/-
  Mathematics: lists with the same text are the same.
  The walk of the law TlvTexts.
-/
import Derived.Test.YtahnmnbjgbfeaaaDma
import Derived.Test.YtahnmnbjgbfeaaaTxb
import Derived.Test.YtahnmnbjgbfeaaaLef
import Derived.Test.YtahnmnbjgbfeaaaTcr
import Derived.Test.YtahnmnbjgbfeaaaWlkx
namespace Go.Proofs.Ytahnmnbjgbfeaaa
set_option linter.unusedVariables false
set_option linter.unusedSimpArgs false
open Go.RowKit


/-- Neither a blank nor the end of a line. -/
def Hx (z : UInt8) : Prop := z ≠ 32 ∧ z ≠ 10
theorem dg_hx (n : Nat) (h : n < 16) : Hx (dg n) := by
  have : ∀ k : Fin 16, dg k.1 ≠ 32 ∧ dg k.1 ≠ 10 := by decide
  exact this ⟨n, h⟩
theorem hexL_hx : ∀ (l : List UInt8) (z : UInt8), z ∈ hexL l → Hx z
  | [], z, h => by simp [hexL] at h
  | x :: l, z, h => by
    have hx := x.toNat_lt
    simp only [hexL, List.mem_cons] at h
    rcases h with rfl | rfl | h
    · exact dg_hx _ (by omega)
    · exact dg_hx _ (by omega)
    · exact hexL_hx l z h
theorem dg_inj {m n : Nat} (hm : m < 16) (hn : n < 16) (h : dg m = dg n) : m = n := by
  have : ∀ j k : Fin 16, dg j.1 = dg k.1 → j.1 = k.1 := by decide
  exact this ⟨m, hm⟩ ⟨n, hn⟩ h
theorem hexL_inj : ∀ (l m : List UInt8), hexL l = hexL m → l = m
  | [], [], _ => rfl
  | [], y :: m, h => by simp [hexL] at h
  | x :: l, [], h => by simp [hexL] at h
  | x :: l, y :: m, h => by
    have hx := x.toNat_lt
    have hy := y.toNat_lt
    simp only [hexL, List.cons.injEq] at h
    obtain ⟨h1, h2, h3⟩ := h
    have e1 := dg_inj (by omega) (by omega) h1
    have e2 := dg_inj (by omega) (by omega) h2
    have e : x = y := UInt8.toNat_inj.1 (by omega)
    rw [e, hexL_inj l m h3]
/-- Digits end where the first other byte stands. -/
theorem hx_split : ∀ (p q : List UInt8) (a b : UInt8) (r s : List UInt8), (∀ z ∈ p, Hx z) → (∀ z ∈ q, Hx z) → ¬ Hx a → ¬ Hx b → p ++ a :: r = q ++ b :: s → p = q ∧ a = b ∧ r = s
  | [], [], a, b, r, s, _, _, _, _, h => by simpa using h
  | [], y :: q, a, b, r, s, _, hq, ha, _, h => by
    simp only [List.nil_append, List.cons_append, List.cons.injEq] at h
    exact absurd (h.1 ▸ hq y (by simp)) ha
  | x :: p, [], a, b, r, s, hp, _, _, hb, h => by
    simp only [List.nil_append, List.cons_append, List.cons.injEq] at h
    exact absurd (h.1 ▸ hp x (by simp)) hb
  | x :: p, y :: q, a, b, r, s, hp, hq, ha, hb, h => by
    simp only [List.cons_append, List.cons.injEq] at h
    obtain ⟨e1, e2, e3⟩ := hx_split p q a b r s (fun z hz => hp z (by simp [hz])) (fun z hz => hq z (by simp [hz])) ha hb h.2
    exact ⟨by rw [h.1, e1], e2, e3⟩
theorem rep_succ (c : Nat) : Lib.repeatL [(32 : UInt8), 32] (c + 1) = 32 :: 32 :: Lib.repeatL [32, 32] c := rfl
theorem rep_zero : Lib.repeatL [(32 : UInt8), 32] 0 = [] := rfl
theorem rep_eq : ∀ (c k : Nat) (a b : UInt8) (r s : List UInt8), a ≠ 32 → b ≠ 32 → Lib.repeatL [32, 32] c ++ a :: r = Lib.repeatL [32, 32] k ++ b :: s → c = k ∧ a :: r = b :: s
  | 0, 0, a, b, r, s, _, _, h => ⟨rfl, h⟩
  | 0, k + 1, a, b, r, s, ha, _, h => by
    rw [rep_succ, rep_zero] at h
    simp only [List.nil_append, List.cons_append, List.cons.injEq] at h
    exact absurd h.1 ha
  | c + 1, 0, a, b, r, s, _, hb, h => by
    rw [rep_succ, rep_zero] at h
    simp only [List.nil_append, List.cons_append, List.cons.injEq] at h
    exact absurd h.1.symm hb
  | c + 1, k + 1, a, b, r, s, ha, hb, h => by
    rw [rep_succ, rep_succ] at h
    simp only [List.cons_append, List.cons.injEq, true_and] at h
    obtain ⟨e1, e2⟩ := rep_eq c k a b r s ha hb h
    exact ⟨by rw [e1], e2⟩
/-- What may follow the lines of depth c: nothing, or a line of less depth. -/
def Stp (c : Nat) (x : List UInt8) : Prop := x = [] ∨ ∃ k z r, k < c ∧ x = Lib.repeatL [32, 32] k ++ z :: r ∧ z ≠ 32
theorem tagF_head (t : Int) : ∃ z r, hexL (tagF t) = z :: r ∧ Hx z := by
  have hp := tagF_pos t
  cases h : tagF t with
  | nil => rw [h] at hp; simp at hp
  | cons y l =>
    have hy := y.toNat_lt
    exact ⟨_, _, rfl, dg_hx _ (by omega)⟩
/-- A line begins with its blanks and a digit. -/
theorem text_head (c : Nat) (t : T) (ts : List T) (x : List UInt8) : ∃ z r, textL c (t :: ts) ++ x = Lib.repeatL [32, 32] c ++ z :: r ∧ Hx z := by
  obtain ⟨z, r, h1, h2⟩ := tagF_head t.tag
  rw [textL, text_parts, h1]
  exact ⟨z, r ++ ((if 0 < t.val.length then 32 :: hexL t.val else []) ++ 10 :: (textL (c + 1) t.kids ++ (textL c ts ++ x))), by simp only [List.append_assoc, List.cons_append], h2⟩
theorem stp_next (c : Nat) (ts : List T) (x : List UInt8) (h : Stp c x) : Stp (c + 1) (textL c ts ++ x) := by
  cases ts with
  | nil =>
    rw [textL, List.nil_append]
    rcases h with rfl | ⟨k, z, r, h1, h2, h3⟩
    · exact .inl rfl
    · exact .inr ⟨k, z, r, by omega, h2, h3⟩
  | cons t ts =>
    obtain ⟨z, r, h1, h2⟩ := text_head c t ts x
    exact .inr ⟨c, z, r, by omega, h1, h2.1⟩
theorem tagF_inj {a b : Int} (ha : validB a = true) (hb : validB b = true) (h : tagF a = tagF b) : a = b := by
  have h1 := validB_range ha
  have h2 := validB_range hb
  obtain ⟨N, rfl⟩ := Int.eq_ofNat_of_zero_le (show 0 ≤ a by omega)
  obtain ⟨M, rfl⟩ := Int.eq_ofNat_of_zero_le (show 0 ≤ b by omega)
  have e1 := tagR_enc N ha []
  have e2 := tagR_enc M hb []
  rw [h] at e1
  rw [e1] at e2
  have := congrArg Prod.fst e2
  simp only at this
  rw [this]
theorem ok_valid {d : Int} {t : T} (h : t.ok d = true) : validB t.tag = true := by
  rw [ok_parts] at h
  simp only [Bool.and_eq_true] at h
  have h2 := h.1.2
  unfold objOk at h2
  split at h2
  · rename_i c; exact cons_valid c
  · simp only [Bool.and_eq_true] at h2; exact h2.1
theorem text_inj : ∀ (n : Nat) (ts us : List T) (c : Nat) (d d' : Int) (x y : List UInt8), wtL ts < n → okL d ts = true → okL d' us = true → Stp c x → Stp c y → textL c ts ++ x = textL c us ++ y → ts = us ∧ x = y
  | 0, _, _, _, _, _, _, _, h, _, _, _, _, _ => absurd h (by omega)
  | n + 1, [], [], c, d, d', x, y, _, _, _, _, _, h => by simpa [textL] using h
  | n + 1, [], u :: us, c, d, d', x, y, _, _, _, hx, _, h => by
    obtain ⟨z, r, h1, h2⟩ := text_head c u us y
    rw [textL, List.nil_append, h1] at h
    rcases hx with e | ⟨k, z', r', g1, g2, g3⟩
    · rw [e] at h; exact absurd h.symm (by simp)
    · rw [g2] at h
      have := (rep_eq k c z' z r' r g3 h2.1 h).1
      omega
  | n + 1, t :: ts, [], c, d, d', x, y, _, _, _, _, hy, h => by
    obtain ⟨z, r, h1, h2⟩ := text_head c t ts x
    rw [textL, List.nil_append, h1] at h
    rcases hy with e | ⟨k, z', r', g1, g2, g3⟩
    · rw [e] at h; exact absurd h (by simp)
    · rw [g2] at h
      have := (rep_eq c k z z' r r' h2.1 g3 h).1
      omega
  | n + 1, t :: ts, u :: us, c, d, d', x, y, hw, ht, hu, hx, hy, h => by
    rw [okL] at ht hu
    simp only [Bool.and_eq_true] at ht hu
    have vt := ok_valid ht.1
    have vu := ok_valid hu.1
    have kt := ht.1
    have ku := hu.1
    rw [ok_parts] at kt ku
    simp only [Bool.and_eq_true] at kt ku
    rw [textL, textL, text_parts, text_parts] at h
    simp only [List.append_assoc, List.cons_append] at h
    have h' := List.append_cancel_left h
    have hwt : wtL (t :: ts) = t.wt + wtL ts := by rw [wtL]
    have hwk : wtL t.kids < t.wt := by cases t; simp only [T.kids, T.wt]; omega
    -- the tags
    have key : ∀ (v : List UInt8) (A : List UInt8), ∃ a r, (if 0 < v.length then 32 :: hexL v else []) ++ 10 :: A = a :: r ∧ ¬ Hx a ∧ ((a = 10 ∧ v = [] ∧ r = A) ∨ (a = 32 ∧ r = hexL v ++ 10 :: A)) := fun v A => by
      by_cases hv : 0 < v.length
      · rw [if_pos hv]
        exact ⟨32, hexL v ++ 10 :: A, rfl, fun h => h.1 rfl, .inr ⟨rfl, rfl⟩⟩
      · rw [if_neg hv]
        exact ⟨10, A, rfl, fun h => h.2 rfl, .inl ⟨rfl, List.eq_nil_of_length_eq_zero (by omega), rfl⟩⟩
    obtain ⟨a, r, e1, e2, e3⟩ := key t.val (textL (c + 1) t.kids ++ (textL c ts ++ x))
    obtain ⟨b, s, f1, f2, f3⟩ := key u.val (textL (c + 1) u.kids ++ (textL c us ++ y))
    rw [e1, f1] at h'
    obtain ⟨g1, g2, g3⟩ := hx_split _ _ a b r s (hexL_hx _) (hexL_hx _) e2 f2 h'
    have etag := tagF_inj vt vu (hexL_inj _ _ g1)
    have erest : t.val = u.val ∧ textL (c + 1) t.kids ++ (textL c ts ++ x) = textL (c + 1) u.kids ++ (textL c us ++ y) := by
      rcases e3 with ⟨q1, q2, q3⟩ | ⟨q1, q2⟩ <;> rcases f3 with ⟨p1, p2, p3⟩ | ⟨p1, p2⟩
      · exact ⟨by rw [q2, p2], by rw [← q3, ← p3, g3]⟩
      · exact absurd (q1.symm.trans (g2.trans p1)) (by decide)
      · exact absurd (q1.symm.trans (g2.trans p1)) (by decide)
      · rw [q2, p2] at g3
        obtain ⟨w1, _, w3⟩ := hx_split _ _ 10 10 _ _ (hexL_hx _) (hexL_hx _) (fun h => h.2 rfl) (fun h => h.2 rfl) g3
        exact ⟨hexL_inj _ _ w1, w3⟩
    obtain ⟨i1, i2⟩ := text_inj n t.kids u.kids (c + 1) _ _ _ _ (by omega) kt.2 ku.2 (stp_next c ts x hx) (stp_next c us y hy) erest.2
    obtain ⟨j1, j2⟩ := text_inj n ts us c d d' x y (by omega) ht.2 hu.2 hx hy i2
    refine ⟨?_, j2⟩
    rw [j1]
    have : t = u := by
      cases t; cases u
      simp only [T.tag, T.val, T.kids] at etag erest i1
      rw [etag, erest.1, i1]
    rw [this]
theorem txt_bad {ts : List T} (h : ¬ encE ts = 0) : txtM ts = [] := by
  unfold encE at h
  unfold txtM
  by_cases h1 : okL 1 ts = true
  · rw [if_pos h1] at h ⊢
    by_cases h2 : 4096 < (encL ts).length
    · rw [if_pos h2]
    · rw [if_neg h2] at h; exact absurd rfl h
  · rw [if_neg h1]
theorem txt_iff {ts us : List T} (h1 : encE ts = 0) (h2 : encE us = 0) : txtM ts = txtM us ↔ ts = us := by
  have c : ∀ {vs : List T}, encE vs = 0 → okL 1 vs = true ∧ txtM vs = textL 0 vs := fun {vs} h => by
    unfold encE at h
    unfold txtM
    by_cases g1 : okL 1 vs = true
    · rw [if_pos g1] at h ⊢
      by_cases g2 : 4096 < (encL vs).length
      · rw [if_pos g2] at h; exact absurd h (by decide)
      · rw [if_neg g2]; exact ⟨g1, rfl⟩
    · rw [if_neg g1] at h; exact absurd h (by decide)
  obtain ⟨a1, a2⟩ := c h1
  obtain ⟨b1, b2⟩ := c h2
  rw [a2, b2]
  refine ⟨fun h => ?_, fun h => by rw [h]⟩
  exact (text_inj _ ts us 0 1 1 [] [] (Nat.lt_succ_self _) a1 b1 (.inl rfl) (.inl rfl) (by rw [h])).1



theorem ba_nil (l : List UInt8) : ((⟨l.toArray⟩ : ByteArray).toList = []) ↔ l = [] := by
  have h := ba_tl ⟨l.toArray⟩ ⟨#[]⟩
  have e : (⟨#[]⟩ : ByteArray).toList = [] := by
    show ByteArray.toList.loop ⟨#[]⟩ 0 [] = []
    unfold ByteArray.toList.loop
    rfl
  rw [e] at h
  rw [h]
  constructor
  · intro h
    have := congrArg (fun b : ByteArray => b.data.toList) h
    simpa using this
  · intro h; rw [h]
set_option maxRecDepth 100000 in
set_option maxHeartbeats 6400000 in
theorem law_texts (ts us : List T) (v u : Value) (w : World) (hv : TL w w.heap.size v ts) (hu : TL w w.heap.size u us) :
    Calls Try.prog 18 #[v, u] w fun e w' => e = .returned (.bool true) ∧ Below w.heap.size w w' := by
  obtain ⟨A1, c1, rfl, _⟩ := id hv
  obtain ⟨A2, c2, rfl, _⟩ := id hu
  have HF1 := Lib.hid (left_any (depL ts + 1) ts (by omega) _ 1500 w (by omega) (by omega) hv)
  have HF2 := Lib.hid fun (W : World) (hW : Below w.heap.size w W) => left_any (depL us + 1) us (by omega) _ 1500 W (by omega) (by omega) (hu.on hW)
  have HA := Lib.hid fun (W : World) => works_any W
  have HV := Lib.hid hv
  have HU := Lib.hid hu
  have hsm := samT_eq ts us
  have HR := Lib.hid fun (W : World) (hW : Below w.heap.size w W) => rsa_any _ ts (Nat.lt_succ_self _) us _ _ W (hv.on hW) (hu.on hW)
  clear hv hu
  by_cases hf1 : 0 ≤ leftL ts 1500
  · have hn1 : ¬ leftL ts 1500 < 0 := by omega
    by_cases hf2 : 0 ≤ leftL us 1500
    · have hn2 : ¬ leftL us 1500 < 0 := by omega
      obtain ⟨b1, b2⟩ := few_txt ts hf1
      obtain ⟨d1, d2⟩ := few_txt us hf2
      have HE1 := Lib.hid fun (W : World) (hW : Below w.heap.size w W) => pencode_any ts _ W (HV.out.on hW) b1
      have HE2 := Lib.hid fun (W : World) (hW : Below w.heap.size w W) => pencode_any us _ W (HU.out.on hW) d1
      have HT1 := Lib.hid fun (W : World) (hW : Below w.heap.size w W) => ptext_any ts _ W (HV.out.on hW) b1 b2
      have HT2 := Lib.hid fun (W : World) (hW : Below w.heap.size w W) => ptext_any us _ W (HU.out.on hW) d1 d2
      have hx1 := @txt_bad ts
      have hx2 := @txt_bad us
      have hxx := @txt_iff ts us
      generalize leftL ts 1500 = Z1 at *
      generalize leftL us 1500 = Z2 at *
      generalize encE ts = e1 at *
      generalize encE us = e2 at *
      generalize txtM ts = m1 at *
      generalize txtM us = m2 at *
      have HM1 := Lib.hid b2
      clear b1 b2 d1 d2 hf1 hf2
      by_cases he1 : e1 = 0
      · by_cases he2 : e2 = 0
        · have hq : (m1 = m2) ↔ (samT ts us = true) := by rw [hxx he1 he2, hsm]
          subst he1 he2
          generalize samT ts us = X at *
          have htl := ba_tl ⟨m1.toArray⟩ ⟨m2.toArray⟩
          have hne : ((⟨m1.toArray⟩ : ByteArray).toList = (⟨m2.toArray⟩ : ByteArray).toList) ↔ X = true := by
            rw [htl, ← hq]
            constructor
            · intro h
              have := congrArg (fun b : ByteArray => b.data.toList) h
              simpa using this
            · intro h; rw [h]
          clear hx1 hx2 hxx hsm htl
          cases X with
          | true =>
            have hm : m1 = m2 := hq.2 rfl
            subst hm
            clear hq hne
            go_enter Try.func18, Try.ntmps18
            go_wp2_with fail
            refine HF1.out.mono ?_
            rintro e w1 ⟨rfl, hb1⟩
            have HB1 := Lib.hid hb1
            clear hb1
            go_wp2_with fail
            refine (HF2.out _ HB1.out).mono ?_
            rintro e w2 ⟨rfl, hb2⟩
            have HB2 := Lib.hid (HB1.out.trans (hb2.mono HB1.out.size))
            clear hb2
            go_wp2_with fail
            refine (HE1.out _ HB2.out).mono ?_
            rintro e w3 ⟨v3, rfl, hv3, hb3⟩
            have HB3 := Lib.hid (HB2.out.trans (hb3.mono HB2.out.size))
            clear hb3 hv3
            go_wp2_with fail
            refine (HE2.out _ HB3.out).mono ?_
            rintro e w4 ⟨v4, rfl, hv4, hb4⟩
            have HB4 := Lib.hid (HB3.out.trans (hb4.mono HB3.out.size))
            clear hb4 hv4
            go_wp2_with fail
            refine (HT1.out _ HB4.out).mono ?_
            rintro e w5 ⟨rfl, hb5⟩
            have HB5 := Lib.hid (HB4.out.trans (hb5.mono HB4.out.size))
            clear hb5
            go_wp2_with fail
            refine (HT2.out _ HB5.out).mono ?_
            rintro e w6 ⟨rfl, hb6⟩
            have HB6 := Lib.hid (HB5.out.trans (hb6.mono HB5.out.size))
            clear hb6
            go_wp2_with fail
            refine (HR.out _ HB6.out).mono ?_
            rintro e w7 ⟨rfl, hb7⟩
            have HB7 := Lib.hid (HB6.out.trans (hb7.mono HB6.out.size))
            clear hb7
            go_wp2_with fail
            refine (HA.out _).mono ?_
            rintro e w8 ⟨rfl, hb8⟩
            go_wp2_with fail
            go_ret
            exact ⟨rfl, HB7.out.trans (hb8.mono HB7.out.size)⟩
          | false =>
            have hn : ¬ (⟨m1.toArray⟩ : ByteArray).toList = (⟨m2.toArray⟩ : ByteArray).toList := fun h => absurd (hne.1 h) (by decide)
            clear hq hne
            generalize (⟨m1.toArray⟩ : ByteArray) = T1 at *
            generalize (⟨m2.toArray⟩ : ByteArray) = T2 at *
            have hn2 : decide (T1.toList = T2.toList) = false := decide_eq_false hn
            have hn3 : (T1.toList == T2.toList) = false := beq_eq_false_iff_ne.2 hn
            go_enter Try.func18, Try.ntmps18
            go_wp2_with fail
            refine HF1.out.mono ?_
            rintro e w1 ⟨rfl, hb1⟩
            have HB1 := Lib.hid hb1
            clear hb1
            go_wp2_with fail
            refine (HF2.out _ HB1.out).mono ?_
            rintro e w2 ⟨rfl, hb2⟩
            have HB2 := Lib.hid (HB1.out.trans (hb2.mono HB1.out.size))
            clear hb2
            go_wp2_with fail
            refine (HE1.out _ HB2.out).mono ?_
            rintro e w3 ⟨v3, rfl, hv3, hb3⟩
            have HB3 := Lib.hid (HB2.out.trans (hb3.mono HB2.out.size))
            clear hb3 hv3
            go_wp2_with fail
            refine (HE2.out _ HB3.out).mono ?_
            rintro e w4 ⟨v4, rfl, hv4, hb4⟩
            have HB4 := Lib.hid (HB3.out.trans (hb4.mono HB3.out.size))
            clear hb4 hv4
            go_wp2_with fail
            refine (HT1.out _ HB4.out).mono ?_
            rintro e w5 ⟨rfl, hb5⟩
            have HB5 := Lib.hid (HB4.out.trans (hb5.mono HB4.out.size))
            clear hb5
            go_wp2_with fail
            refine (HT2.out _ HB5.out).mono ?_
            rintro e w6 ⟨rfl, hb6⟩
            have HB6 := Lib.hid (HB5.out.trans (hb6.mono HB5.out.size))
            clear hb6
            go_wp2_with fail
            refine (HR.out _ HB6.out).mono ?_
            rintro e w7 ⟨rfl, hb7⟩
            have HB7 := Lib.hid (HB6.out.trans (hb7.mono HB6.out.size))
            clear hb7
            go_wp2_with fail
            refine (HA.out _).mono ?_
            rintro e w8 ⟨rfl, hb8⟩
            go_wp2_with fail
            go_ret
            exact ⟨rfl, HB7.out.trans (hb8.mono HB7.out.size)⟩
        · have eb2 : (e2 == 0) = false := by simpa using he2
          have hT2 : (⟨m2.toArray⟩ : ByteArray).toList = [] := (ba_nil m2).2 (hx2 he2)
          subst he1
          clear hx1 hx2 hxx hsm
          generalize (⟨m2.toArray⟩ : ByteArray) = T2 at *
          have hT2a : decide (T2.toList = []) = true := decide_eq_true hT2
          have hT2b : (T2.toList == []) = true := beq_iff_eq.2 hT2
          go_enter Try.func18, Try.ntmps18
          go_wp2_with fail
          refine HF1.out.mono ?_
          rintro e w1 ⟨rfl, hb1⟩
          have HB1 := Lib.hid hb1
          clear hb1
          go_wp2_with fail
          refine (HF2.out _ HB1.out).mono ?_
          rintro e w2 ⟨rfl, hb2⟩
          have HB2 := Lib.hid (HB1.out.trans (hb2.mono HB1.out.size))
          clear hb2
          go_wp2_with fail
          refine (HE1.out _ HB2.out).mono ?_
          rintro e w3 ⟨v3, rfl, hv3, hb3⟩
          have HB3 := Lib.hid (HB2.out.trans (hb3.mono HB2.out.size))
          clear hb3 hv3
          go_wp2_with fail
          refine (HE2.out _ HB3.out).mono ?_
          rintro e w4 ⟨v4, rfl, hv4, hb4⟩
          have HB4 := Lib.hid (HB3.out.trans (hb4.mono HB3.out.size))
          clear hb4 hv4
          go_wp2_with fail
          refine (HT2.out _ HB4.out).mono ?_
          rintro e w5 ⟨rfl, hb5⟩
          have HB5 := Lib.hid (HB4.out.trans (hb5.mono HB4.out.size))
          clear hb5
          go_wp2_with fail
          refine (HA.out _).mono ?_
          rintro e w9 ⟨rfl, hb9⟩
          go_wp2_with fail
          go_ret
          exact ⟨rfl, HB5.out.trans (hb9.mono HB5.out.size)⟩
      · have eb1 : (e1 == 0) = false := by simpa using he1
        have hT1 : (⟨m1.toArray⟩ : ByteArray).toList = [] := (ba_nil m1).2 (hx1 he1)
        by_cases he2 : e2 = 0
        · subst he2
          clear hx1 hx2 hxx hsm
          generalize (⟨m1.toArray⟩ : ByteArray) = T1 at *
          have hT1a : decide (T1.toList = []) = true := decide_eq_true hT1
          have hT1b : (T1.toList == []) = true := beq_iff_eq.2 hT1
          go_enter Try.func18, Try.ntmps18
          go_wp2_with fail
          refine HF1.out.mono ?_
          rintro e w1 ⟨rfl, hb1⟩
          have HB1 := Lib.hid hb1
          clear hb1
          go_wp2_with fail
          refine (HF2.out _ HB1.out).mono ?_
          rintro e w2 ⟨rfl, hb2⟩
          have HB2 := Lib.hid (HB1.out.trans (hb2.mono HB1.out.size))
          clear hb2
          go_wp2_with fail
          refine (HE1.out _ HB2.out).mono ?_
          rintro e w3 ⟨v3, rfl, hv3, hb3⟩
          have HB3 := Lib.hid (HB2.out.trans (hb3.mono HB2.out.size))
          clear hb3 hv3
          go_wp2_with fail
          refine (HE2.out _ HB3.out).mono ?_
          rintro e w4 ⟨v4, rfl, hv4, hb4⟩
          have HB4 := Lib.hid (HB3.out.trans (hb4.mono HB3.out.size))
          clear hb4 hv4
          go_wp2_with fail
          refine (HT1.out _ HB4.out).mono ?_
          rintro e w5 ⟨rfl, hb5⟩
          have HB5 := Lib.hid (HB4.out.trans (hb5.mono HB4.out.size))
          clear hb5
          go_wp2_with fail
          refine (HA.out _).mono ?_
          rintro e w9 ⟨rfl, hb9⟩
          go_wp2_with fail
          go_ret
          exact ⟨rfl, HB5.out.trans (hb9.mono HB5.out.size)⟩
        · have eb2 : (e2 == 0) = false := by simpa using he2
          have hT2 : (⟨m2.toArray⟩ : ByteArray).toList = [] := (ba_nil m2).2 (hx2 he2)
          clear hx1 hx2 hxx hsm
          generalize (⟨m1.toArray⟩ : ByteArray) = T1 at *
          have hT1a : decide (T1.toList = []) = true := decide_eq_true hT1
          have hT1b : (T1.toList == []) = true := beq_iff_eq.2 hT1
          generalize (⟨m2.toArray⟩ : ByteArray) = T2 at *
          have hT2a : decide (T2.toList = []) = true := decide_eq_true hT2
          have hT2b : (T2.toList == []) = true := beq_iff_eq.2 hT2
          go_enter Try.func18, Try.ntmps18
          go_wp2_with fail
          refine HF1.out.mono ?_
          rintro e w1 ⟨rfl, hb1⟩
          have HB1 := Lib.hid hb1
          clear hb1
          go_wp2_with fail
          refine (HF2.out _ HB1.out).mono ?_
          rintro e w2 ⟨rfl, hb2⟩
          have HB2 := Lib.hid (HB1.out.trans (hb2.mono HB1.out.size))
          clear hb2
          go_wp2_with fail
          refine (HE1.out _ HB2.out).mono ?_
          rintro e w3 ⟨v3, rfl, hv3, hb3⟩
          have HB3 := Lib.hid (HB2.out.trans (hb3.mono HB2.out.size))
          clear hb3 hv3
          go_wp2_with fail
          refine (HE2.out _ HB3.out).mono ?_
          rintro e w4 ⟨v4, rfl, hv4, hb4⟩
          have HB4 := Lib.hid (HB3.out.trans (hb4.mono HB3.out.size))
          clear hb4 hv4
          go_wp2_with fail
          refine (HT1.out _ HB4.out).mono ?_
          rintro e w5 ⟨rfl, hb5⟩
          have HB5 := Lib.hid (HB4.out.trans (hb5.mono HB4.out.size))
          clear hb5
          go_wp2_with fail
          refine (HT2.out _ HB5.out).mono ?_
          rintro e w6 ⟨rfl, hb6⟩
          have HB6 := Lib.hid (HB5.out.trans (hb6.mono HB5.out.size))
          clear hb6
          go_wp2_with fail
          refine (HA.out _).mono ?_
          rintro e w9 ⟨rfl, hb9⟩
          go_wp2_with fail
          go_ret
          exact ⟨rfl, HB6.out.trans (hb9.mono HB6.out.size)⟩
    · have hn2 : leftL us 1500 < 0 := by omega
      generalize leftL ts 1500 = Z1 at *
      generalize leftL us 1500 = Z2 at *
      clear hsm HR hf1 hf2
      go_enter Try.func18, Try.ntmps18
      go_wp2_with fail
      refine HF1.out.mono ?_
      rintro e w1 ⟨rfl, hb1⟩
      have HB1 := Lib.hid hb1
      clear hb1
      go_wp2_with fail
      refine (HF2.out _ HB1.out).mono ?_
      rintro e w2 ⟨rfl, hb2⟩
      have HB2 := Lib.hid (HB1.out.trans (hb2.mono HB1.out.size))
      clear hb2
      go_wp2_with fail
      refine (HA.out _).mono ?_
      rintro e w9 ⟨rfl, hb9⟩
      go_wp2_with fail
      go_ret
      exact ⟨rfl, HB2.out.trans (hb9.mono HB2.out.size)⟩
  · have hn1 : leftL ts 1500 < 0 := by omega
    generalize leftL ts 1500 = Z1 at *
    clear hsm HR hf1 HF2
    go_enter Try.func18, Try.ntmps18
    go_wp2_with fail
    refine HF1.out.mono ?_
    rintro e w1 ⟨rfl, hb1⟩
    have HB1 := Lib.hid hb1
    clear hb1
    go_wp2_with fail
    refine (HA.out _).mono ?_
    rintro e w9 ⟨rfl, hb9⟩
    go_wp2_with fail
    go_ret
    exact ⟨rfl, HB1.out.trans (hb9.mono HB1.out.size)⟩

end Go.Proofs.Ytahnmnbjgbfeaaa
