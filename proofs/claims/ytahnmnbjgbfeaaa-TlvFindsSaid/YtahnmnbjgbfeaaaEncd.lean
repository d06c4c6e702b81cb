/-
  The walk of encode.
-/
import Derived.Test.YtahnmnbjgbfeaaaEncc
namespace Go.Proofs.Ytahnmnbjgbfeaaa
set_option linter.unusedVariables false
set_option linter.unusedSimpArgs false
open Go.RowKit

theorem size_any : ∀ (n : Nat) (ts : List T) (d : Int), depL ts < n → okL d ts = true → (encL ts).length ≤ 1000000 → SizeC ts
  | 0, ts, d, h, _, _ => absurd h (by omega)
  | n + 1, ts, d, h, h1, h2 => size_step ts d (fun ts' h' hk hl => size_any n ts' (d + 1) (by omega) hk hl) h1 h2

/-- The parts of which encode joins the encoding. -/
def partsL (ts : List T) : List (List UInt8) := ts.flatMap fun t => [tagF t.tag, lenF (t.val ++ encL t.kids).length, t.val ++ encL t.kids]
theorem partsL_take (ts : List T) (k : Nat) (h : k < ts.length) : partsL (ts.take (k + 1)) = partsL (ts.take k) ++ [tagF (ts[k]).tag, lenF ((ts[k]).val ++ encL (ts[k]).kids).length, (ts[k]).val ++ encL (ts[k]).kids] := by
  unfold partsL
  rw [List.take_succ_eq_append_getElem h, List.flatMap_append]
  simp
theorem partsL_flatten (ts : List T) : (partsL ts).flatten = encL ts := by
  induction ts with
  | nil => rfl
  | cons t ts ih =>
    unfold partsL at ih ⊢
    rw [List.flatMap_cons, List.flatten_append, ih, encL, enc_parts]
    simp
theorem partsL_length (ts : List T) : (partsL ts).length = 3 * ts.length := by
  unfold partsL
  induction ts with
  | nil => rfl
  | cons t ts ih => rw [List.flatMap_cons, List.length_append, ih]; simp; omega
theorem lens_flat (ls : List (List UInt8)) : Lib.lens ls = ls.flatten.length := lens_flatten ls
theorem lenF_pos (n : Nat) : 1 ≤ (lenF n).length := by unfold lenF; split <;> (try split) <;> simp
theorem encL_count (ts : List T) : ts.length ≤ (encL ts).length := by
  induction ts with
  | nil => simp
  | cons t ts ih =>
    rw [encL, List.length_append, enc_length, List.length_cons]
    have := lenF_pos (t.val.length + (encL t.kids).length)
    omega

/-- Two byte slices in a block of their own. -/
theorem LL.two (w : World) (u1 u2 : Value) (l1 l2 : List UInt8) (h1 : SL w w.heap.size u1 l1) (h2 : SL w w.heap.size u2 l2) :
    LL (w.alloc (.cells #[u1, u2] 22)) (w.alloc (.cells #[u1, u2] 22)).heap.size (.slice (some ⟨w.heap.size, 0, none⟩) 2 2) [l1, l2] := by
  have hb := alloc_below w (.cells #[u1, u2] 22)
  refine ⟨some ⟨w.heap.size, 0, none⟩, 2, [u1, u2], rfl, Nat.le_refl _, by unfold maxLen; omega, rfl, fun _ => ⟨w.heap.size, 0, rfl, by rw [alloc_size]; omega, fun k hk => ?_⟩, fun k hk => ?_⟩
  · have hk' : k = 0 ∨ k = 1 := by simp at hk; omega
    rcases hk' with rfl | rfl
    · exact (cell_of_row _ w.heap.size 0 #[u1, u2] 22 (0, 0) (heap_alloc_new w _)).trans rfl
    · exact (cell_of_row _ w.heap.size 1 #[u1, u2] 22 (0, 0) (heap_alloc_new w _)).trans rfl
  · have hk' : k = 0 ∨ k = 1 := by simp at hk; omega
    rcases hk' with rfl | rfl
    · exact h1.on hb
    · exact h2.on hb

def EncC (ts : List T) : Prop := ∀ (v : Value) (w : World), TL w w.heap.size v ts →
  Calls Try.prog 71 #[v] w fun e w' => ∃ v', e = .returned v' ∧ FS w' w.heap.size v' (encL ts) ∧ Below w.heap.size w w'

set_option maxRecDepth 100000 in
set_option maxHeartbeats 3200000 in
theorem enc_step (ts : List T) (d : Int) (ih : ∀ (ts' : List T), depL ts' < depL ts → okL (d + 1) ts' = true → (encL ts').length ≤ 100000 → EncC ts')
    (hok : okL d ts = true) (hs : (encL ts).length ≤ 100000) : EncC ts := by
  intro v w hv
  have IH := Lib.hid ih
  have HOK := Lib.hid hok
  have HS := Lib.hid hs
  have hcn := encL_count ts
  have hcnt : ts.length ≤ 100000 := by omega
  clear ih hok hs hcn
  obtain ⟨A, c, rfl, h1, h2, h3⟩ := hv
  unfold maxLen at h2
  go_enter Try.func71, Try.ntmps71
  go_wp2_with fail
  go_loopw [3, 9] (fun n i wr => ∃ k : Nat, k ≤ ts.length ∧ i = .int .i64 k ∧ OM wr w.heap.size n (partsL (ts.take k)) ∧ Below w.heap.size w wr) (fun _ i _ => ts.length - (intOf i).toNat)
  case atStart => exact ⟨0, Nat.zero_le _, rfl, OM.nil _ _, Below.refl _ _⟩
  case round =>
    obtain ⟨k, hk, rfl, hom, hbel⟩ := hrel
    by_cases hkl : k < ts.length
    · obtain ⟨b, o, rfl, hb, hts⟩ := h3.out (by omega)
      have hta := TsAt.get hts hkl
      have hdp := depL_get ts k hkl
      have hob := ok_obj (okL_get d ts k hkl HOK.out)
      have hst := encL_take ts k hkl
      have hle := encL_take_le ts (k + 1)
      have hpt := partsL_take ts k hkl
      have hpl := partsL_length (ts.take k)
      rw [List.length_take] at hpl
      obtain ⟨t, ht⟩ : ∃ t, t = ts[k] := ⟨_, rfl⟩
      rw [← ht] at hta hst hdp hob hpt
      rw [← dep_kids] at hdp
      have hlen : (encL (ts.take (k + 1))).length = (encL (ts.take k)).length + t.enc.length := by rw [hst, List.length_append]
      rw [enc_length] at hlen
      have hsn := HS.out
      obtain ⟨t1, t2, hkok⟩ := hob
      have hih := IH.out t.kids (by omega) hkok (by omega)
      unfold EncC at hih
      have hta' := TAt.keep hbel.size (fun p hp => hbel.cell hp) t b _ hb hta
      obtain ⟨A1, c1, A2, c2, g1, g2, g3, hv1, hu1⟩ := hta'.cells
      have hsz := hbel.size
      obtain ⟨tag, htag⟩ : ∃ x, x = t.tag := ⟨_, rfl⟩
      rw [← htag] at t1 t2 hlen g1 hpt
      obtain ⟨C, hC⟩ : ∃ C, C = t.val ++ encL t.kids := ⟨_, rfl⟩
      have hCf : [t.val, encL t.kids].flatten = C := by rw [hC]; simp
      have hClen : C.length = t.val.length + (encL t.kids).length := by rw [hC, List.length_append]
      rw [← hC] at hpt
      rw [← hClen] at hlen
      obtain ⟨P, hP⟩ : ∃ P, P = partsL (ts.take k) := ⟨_, rfl⟩
      rw [← hP] at hpt hpl hom
      have HPT := Lib.hid hpt
      have hPl : P.length ≤ 300000 := by omega
      have hCl : C.length ≤ 100000 := by omega
      obtain ⟨V, hV⟩ : ∃ x, x = t.val.length := ⟨_, rfl⟩
      rw [← hV] at g2 hv1
      obtain ⟨M, hM⟩ : ∃ x, x = t.kids.length := ⟨_, rfl⟩
      rw [← hM] at g3 hu1
      have hbn := (alloc_below wr (Obj.cells #[Value.int IntKind.i64 tag, Value.slice A1 V c1, Value.slice A2 M c2] 58)).drew
      have HU := Lib.hid (hu1.on hbn)
      have HV := Lib.hid (hv1.on hbn)
      have HI := Lib.hid hih
      have HCF := Lib.hid hCf
      have HCL := Lib.hid hClen
      have HC1 := Lib.hid (fun W => tagF_own tag W t1 t2)
      have HC2 := Lib.hid (fun W => lenF_own C.length W (by omega))
      have HVl := Lib.hid hV
      clear hts hta hta' ht hst hdp hle hlen hkok hih hbn hv1 hu1 htag hV hM hsn hC hCf hClen hP hpt hpl
      go_wp2_with fail
      go_region_held3 (fun w' => w'.cell? ⟨wr.heap.size, 1, none⟩ = some (.slice A1 V c1) ∧ w'.cell? ⟨wr.heap.size, 2, none⟩ = some (.slice A2 M c2) ∧ w'.cell? ⟨wr.heap.size, 0, none⟩ = some (.int .i64 tag))
        (first
          | (go_keep; done)
          | exact ⟨new_cellD hb2 1 _ rfl, new_cellD hb2 2 _ rfl, new_cellD hb2 0 _ rfl⟩
          | exact ⟨new_cellD (hb2.alloc (by first | exact Nat.le_refl _ | exact hb2.size) _) 1 _ rfl, new_cellD (hb2.alloc (by first | exact Nat.le_refl _ | exact hb2.size) _) 2 _ rfl, new_cellD (hb2.alloc (by first | exact Nat.le_refl _ | exact hb2.size) _) 0 _ rfl⟩
          | exact ⟨new_cellD (hb2.trans ((after_alloc hb3).mono hb2.size)) 1 _ rfl, new_cellD (hb2.trans ((after_alloc hb3).mono hb2.size)) 2 _ rfl, new_cellD (hb2.trans ((after_alloc hb3).mono hb2.size)) 0 _ rfl⟩)
        (first
          | (go_at_call 71; (with_reducible refine (HI.out _ _ HU.out).mono ?_); rintro e w2 ⟨v2, rfl, hv2, hb2⟩; have hv2' := hv2.1; obtain ⟨A3, c3, rfl, _⟩ := hv2')
          | (go_at_call 39; refine (pjoin_own [t.val, encL t.kids] _ _ (LL.two w2 _ _ _ _ (by have := HVl.out; subst this; exact HV.out.on hb2) hv2.1) (by simp) (by have := HCL.out; simp [Lib.lens]; omega)).mono ?_; rintro e w3 ⟨v3, rfl, hv3, hb3⟩))
      rename_i hH
      obtain ⟨q1, q2, q3⟩ := hH
      rw [HCF.out] at hv3
      obtain ⟨A4, c4, rfl, _⟩ := id hv3.1
      have e2 : (wr.alloc (Obj.cells #[Value.int IntKind.i64 tag, Value.slice A1 V c1, Value.slice A2 M c2] 58)).drew.heap.size = wr.heap.size + 1 := alloc_size _ _
      have s2 := hb2.size
      have e3 := alloc_size w2 (Obj.cells #[Value.slice A1 V c1, Value.slice A3 (encL t.kids).length c3] 22)
      have s3 := hb3.size
      have b2 : Below wr.heap.size wr w2 := after_alloc_drew hb2
      have b3 : Below wr.heap.size wr w3 := b2.trans ((after_alloc hb3).mono b2.size)
      clear hb2 hb3
      have hlo := hom.lt
      go_wp2_with fail
      refine (HC1.out w3).mono ?_
      rintro e w4 ⟨v4, rfl, hv4, hb4⟩
      obtain ⟨A5, c5, rfl, _⟩ := id hv4.1
      go_wp2_with fail
      refine (HC2.out w4).mono ?_
      rintro e w5 ⟨v5, rfl, hv5, hb5⟩
      obtain ⟨A6, c6, rfl, _⟩ := id hv5.1
      have s4 := hb4.size
      have s5 := hb5.size
      have b5 : Below wr.heap.size wr w5 := b3.trans ((hb4.trans (hb5.mono s4)).mono b3.size)
      have s6 := b5.size
      go_wp2_with (at_builtin; refine wpList_appM rfl (.tmp 20) (.tmp 28) rfl w5 w.heap.size wr.heap.size u3 P _ _ _ (tagF tag) (lenF C.length) C w5.heap.size rfl rfl (alloc_below _ _) (hom.later b5) hlo ((hv4.on hb5).more (by omega)) (hv5.more (by omega)) (((hv3.on hb4).on hb5).more (by omega)) (heap_alloc_new w5 _) (by omega) (by omega) ?_; intro v6 w6 hv6 hb6)
      go_roundw
      case rel => exact ⟨k + 1, by omega, by go_num, by rw [HPT.out]; exact hv6, hbel.trans ((b5.mono hsz).trans hb6)⟩
      case measure => simp [intOf]; omega
    · have hke : k = ts.length := by omega
      rw [hke, List.take_length] at hom
      have HS' : Hid ((partsL ts).flatten.length ≤ 100000) := by show _ ≤ _; rw [partsL_flatten]; exact HS.out
      have HPL := Lib.hid (partsL_length ts)
      obtain ⟨A7, c7, vs7, e7, h7⟩ := id hom.ll
      subst e7
      have HOM := Lib.hid hom
      clear hom
      have hw : Below w.heap.size w wr := hbel
      go_wp2_with fail
      refine (pjoin_own (partsL ts) _ wr HOM.out.ll (by have := HPL.out; omega) (by rw [lens_flat]; exact Nat.le_trans HS'.out (by omega))).mono ?_
      rintro e w2 ⟨v2, rfl, hv2, hb2⟩
      go_wp2_with fail
      go_ret
      refine ⟨_, rfl, ?_, hbel.trans (hb2.mono hbel.size)⟩
      rw [partsL_flatten] at hv2
      exact hv2.more hbel.size
theorem enc_any : ∀ (n : Nat) (ts : List T) (d : Int), depL ts < n → okL d ts = true → (encL ts).length ≤ 100000 → EncC ts
  | 0, ts, d, h, _, _ => absurd h (by omega)
  | n + 1, ts, d, h, h1, h2 => enc_step ts d (fun ts' h' hk hl => enc_any n ts' (d + 1) (by omega) hk hl) h1 h2

/-- What Encode answers. -/
def encM (ts : List T) : List UInt8 := if okL 1 ts = true then (if 4096 < (encL ts).length then [] else encL ts) else []
def encE (ts : List T) : Int := if okL 1 ts = true then (if 4096 < (encL ts).length then 3 else 0) else 1
set_option maxRecDepth 100000 in
theorem pencode_any (ts : List T) (v : Value) (w : World) (hv : TL w w.heap.size v ts) (hs : (encL ts).length ≤ 100000) :
    Calls Try.prog 50 #[v] w fun e w' => ∃ v', e = .returned (.tuple #[v', .int .i64 (encE ts)]) ∧ SL w' w'.heap.size v' (encM ts) ∧ Below w.heap.size w w' := by
  have HS := Lib.hid hs
  clear hs
  have HV := Lib.hid hv
  have hc := okL_any (depL ts + 1) ts v 1 w (by omega) (by omega) (by omega) hv
  obtain ⟨A, c, rfl, h1, h2, h3⟩ := hv
  cases hok : okL 1 ts with
  | false =>
    rw [hok] at hc
    have HC := Lib.hid hc
    have HM := Lib.hid (show encM ts = [] by unfold encM; rw [hok]; rfl)
    have HE := Lib.hid (show encE ts = 1 by unfold encE; rw [hok]; rfl)
    clear hc hok
    go_enter Try.func50, Try.ntmps50
    rw [HM.out, HE.out]
    go_wp2_with (go_at_call 69; refine HC.out.mono ?_; rintro e w2 ⟨rfl, hb2⟩)
    go_ret2
    exact ⟨_, rfl, SL.nil _ _ _ _ (Nat.zero_le _), hb2⟩
  | true =>
    rw [hok] at hc
    have HC := Lib.hid hc
    have hsz := size_any (depL ts + 1) ts 1 (by omega) hok (Nat.le_trans HS.out (by omega))
    have hen := enc_any (depL ts + 1) ts 1 (by omega) hok HS.out
    unfold SizeC at hsz
    unfold EncC at hen
    by_cases hl : 4096 < (encL ts).length
    · have HM := Lib.hid (show encM ts = [] by unfold encM; rw [if_pos hok, if_pos hl])
      have HE := Lib.hid (show encE ts = 3 by unfold encE; rw [if_pos hok, if_pos hl])
      obtain ⟨S, hS⟩ : ∃ S, S = (encL ts).length := ⟨_, rfl⟩
      simp only [← hS] at hsz hl
      have HZ := Lib.hid hsz
      clear hc hok hsz hen hS
      go_enter Try.func50, Try.ntmps50
      rw [HM.out, HE.out]
      go_wp2_with (first
        | (go_at_call 69; refine HC.out.mono ?_; rintro e w2 ⟨rfl, hb2⟩)
        | (go_at_call 70; refine (HZ.out _ _ (HV.out.on hb2)).mono ?_; rintro e w3 ⟨rfl, hb3⟩))
      go_ret2
      exact ⟨_, rfl, SL.nil _ _ _ _ (Nat.zero_le _), hb2.trans (hb3.mono hb2.size)⟩
    · have HM := Lib.hid (show encM ts = encL ts by unfold encM; rw [if_pos hok, if_neg hl])
      have HE := Lib.hid (show encE ts = 0 by unfold encE; rw [if_pos hok, if_neg hl])
      obtain ⟨S, hS⟩ : ∃ S, S = (encL ts).length := ⟨_, rfl⟩
      simp only [← hS] at hsz hl
      have HZ := Lib.hid hsz
      have HN := Lib.hid hen
      clear hc hok hsz hen hS
      go_enter Try.func50, Try.ntmps50
      rw [HM.out, HE.out]
      go_wp2_with (first
        | (go_at_call 69; refine HC.out.mono ?_; rintro e w2 ⟨rfl, hb2⟩)
        | (go_at_call 70; refine (HZ.out _ _ (HV.out.on hb2)).mono ?_; rintro e w3 ⟨rfl, hb3⟩)
        | (go_at_call 71; refine (HN.out _ _ ((HV.out.on hb2).on hb3)).mono ?_; rintro e w4 ⟨v4, rfl, hv4, hb4⟩))
      go_ret2
      exact ⟨_, rfl, hv4.1, (hb2.trans (hb3.mono hb2.size)).trans (hb4.mono (hb2.trans (hb3.mono hb2.size)).size)⟩
end Go.Proofs.Ytahnmnbjgbfeaaa
