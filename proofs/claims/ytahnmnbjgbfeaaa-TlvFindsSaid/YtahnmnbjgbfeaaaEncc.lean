/-
  The walk of size.
-/
import Derived.Test.YtahnmnbjgbfeaaaEncb
namespace Go.Proofs.Ytahnmnbjgbfeaaa
set_option linter.unusedVariables false
set_option linter.unusedSimpArgs false
open Go.RowKit

theorem encL_split (ts : List T) (k : Nat) : encL ts = encL (ts.take k) ++ encL (ts.drop k) := by
  induction ts generalizing k with
  | nil => simp [encL]
  | cons t ts ih =>
    cases k with
    | zero => simp [encL]
    | succ k => simp [encL]; exact ih k
theorem encL_take_le (ts : List T) (k : Nat) : (encL (ts.take k)).length ≤ (encL ts).length := by
  rw [encL_split ts k, List.length_append]; omega
theorem enc_length (t : T) : t.enc.length = (tagF t.tag).length + (lenF (t.val.length + (encL t.kids).length)).length + (t.val.length + (encL t.kids).length) := by
  rw [enc_parts]; simp; omega
/-- What an object of a valid list is. -/
theorem ok_obj {d : Int} {t : T} (h : t.ok d = true) : 1 ≤ t.tag ∧ t.tag ≤ 65535 ∧ okL (d + 1) t.kids = true := by
  rw [ok_parts] at h
  simp only [Bool.and_eq_true] at h
  obtain ⟨⟨_, h2⟩, h3⟩ := h
  have hv : validB t.tag = true := by
    unfold objOk at h2
    split at h2
    · rename_i hc
      unfold consB at hc
      simp only [Bool.and_eq_true] at hc
      exact hc.1
    · simp only [Bool.and_eq_true] at h2
      exact h2.1
  exact ⟨(validB_range hv).1, (validB_range hv).2, h3⟩

/-- As new_cell, where a region has drawn. -/
theorem new_cellD {w w' : World} {cs : Array Value} {ty : TypeId} (h : Below (w.alloc (.cells cs ty)).drew.heap.size (w.alloc (.cells cs ty)).drew w') (i : Nat) (u : Value) (hu : cs[i]? = some u) : w'.cell? ⟨w.heap.size, i, none⟩ = some u := by
  rw [h.cell (p := ⟨w.heap.size, i, none⟩) (by show w.heap.size < (w.alloc (.cells cs ty)).heap.size; rw [alloc_size]; exact Nat.lt_succ_self _)]
  show (w.alloc (.cells cs ty)).cell? _ = _
  rw [cell_of_row _ w.heap.size i cs ty (0, 0) (heap_alloc_new w _), hu]

theorem after_alloc_drew {w w' : World} {o : Obj} (h : Below (w.alloc o).drew.heap.size (w.alloc o).drew w') : Below w.heap.size w w' :=
  ((alloc_below w o).drew).trans (h.mono (by show _ ≤ (w.alloc o).heap.size; rw [alloc_size]; exact Nat.le_succ _))

def SizeC (ts : List T) : Prop := ∀ (v : Value) (w : World), TL w w.heap.size v ts →
  Calls Try.prog 70 #[v] w fun e w' => e = .returned (.int .i64 ((encL ts).length : Int)) ∧ Below w.heap.size w w'

set_option maxRecDepth 100000 in
set_option maxHeartbeats 3200000 in
theorem size_step (ts : List T) (d : Int) (ih : ∀ (ts' : List T), depL ts' < depL ts → okL (d + 1) ts' = true → (encL ts').length ≤ 1000000 → SizeC ts')
    (hok : okL d ts = true) (hs : (encL ts).length ≤ 1000000) : SizeC ts := by
  intro v w hv
  have IH := Lib.hid ih
  have HOK := Lib.hid hok
  have HS := Lib.hid hs
  clear ih hok hs
  obtain ⟨A, c, rfl, h1, h2, h3⟩ := hv
  unfold maxLen at h2
  go_enter Try.func70, Try.ntmps70
  go_wp2_with fail
  go_loopw [3, 9] (fun n i wr => ∃ k : Nat, k ≤ ts.length ∧ i = .int .i64 k ∧ n = .int .i64 ((encL (ts.take k)).length : Int) ∧ Below w.heap.size w wr) (fun _ i _ => ts.length - (intOf i).toNat)
  case atStart => exact ⟨0, Nat.zero_le _, rfl, rfl, Below.refl _ _⟩
  case round =>
    obtain ⟨k, hk, rfl, rfl, hbel⟩ := hrel
    by_cases hkl : k < ts.length
    · obtain ⟨b, o, rfl, hb, hts⟩ := h3.out (by omega)
      have hta := TsAt.get hts hkl
      have hdp := depL_get ts k hkl
      have hob := ok_obj (okL_get d ts k hkl HOK.out)
      have hst := encL_take ts k hkl
      have hle := encL_take_le ts (k + 1)
      obtain ⟨t, ht⟩ : ∃ t, t = ts[k] := ⟨_, rfl⟩
      rw [← ht] at hta hst hdp hob
      rw [← dep_kids] at hdp
      have hlen : (encL (ts.take (k + 1))).length = (encL (ts.take k)).length + t.enc.length := by rw [hst, List.length_append]
      rw [enc_length] at hlen
      have hsn := HS.out
      obtain ⟨t1, t2, hkok⟩ := hob
      obtain ⟨K, hK⟩ : ∃ K, K = (encL t.kids).length := ⟨_, rfl⟩
      have hih := IH.out t.kids (by omega) hkok (by omega)
      unfold SizeC at hih
      simp only [← hK] at hih hlen
      obtain ⟨S0, hS0⟩ : ∃ S, S = (encL (ts.take k)).length := ⟨_, rfl⟩
      rw [← hS0] at hlen ⊢
      obtain ⟨S1, hS1⟩ : ∃ S, S = (encL (ts.take (k + 1))).length := ⟨_, rfl⟩
      rw [← hS1] at hlen hle
      have hS1le : S1 ≤ 1000000 := by omega
      have hta' := TAt.keep hbel.size (fun p hp => hbel.cell hp) t b _ hb hta
      obtain ⟨A1, c1, A2, c2, g1, g2, g3, hv1, hu1⟩ := hta'.cells
      have hsz := hbel.size
      obtain ⟨tag, htag⟩ : ∃ x, x = t.tag := ⟨_, rfl⟩
      rw [← htag] at t1 t2 hlen g1
      obtain ⟨V, hV⟩ : ∃ x, x = t.val.length := ⟨_, rfl⟩
      rw [← hV] at hlen g2
      obtain ⟨M, hM⟩ : ∃ x, x = t.kids.length := ⟨_, rfl⟩
      rw [← hM] at g3
      have hbn := (alloc_below wr (Obj.cells #[Value.int IntKind.i64 tag, Value.slice A1 V c1, Value.slice A2 M c2] 58)).drew
      have hu2 := hu1.on hbn
      rw [← hM] at hu2
      have HU := Lib.hid hu2
      have HI := Lib.hid hih
      have hVK : V + K ≤ 1000000 := by omega
      have HL := Lib.hid hlen
      have HS1 := Lib.hid hS1
      have hc1 := fun W => tagF_own tag W t1 t2
      have hc2 := fun W => lenF_own (V + K) W (by omega)
      simp only [Int.natCast_add] at hc2
      have hq1 : (tagF tag).length ≤ 1000000 := by omega
      have hq2 : (lenF (V + K)).length ≤ 1000000 := by omega
      have HC1 := Lib.hid hc1
      have HC2 := Lib.hid hc2
      have hsum : S0 + ((tagF tag).length + (lenF (V + K)).length + (V + K)) ≤ 1000000 := by omega
      clear hts hta hta' ht hst hdp hle hlen hS1 hkok hih hu2 hbn hv1 hu1 htag hV hM hc1 hc2 hsn hK hS0
      go_wp2_with fail
      have hwr : IntKind.i64.wrap ((V : Int) + (K : Int)) = ((V + K : Nat) : Int) := by rw [IntWalk.i64_in _ (by omega)]; omega
      go_region_held3 (fun w' => w'.cell? ⟨wr.heap.size, 1, none⟩ = some (.slice A1 V c1) ∧ w'.cell? ⟨wr.heap.size, 2, none⟩ = some (.slice A2 M c2) ∧ w'.cell? ⟨wr.heap.size, 0, none⟩ = some (.int .i64 tag))
        (first
          | (go_keep; done)
          | exact ⟨new_cellD hb2 1 _ rfl, new_cellD hb2 2 _ rfl, new_cellD hb2 0 _ rfl⟩)
        (first
          | (go_at_call 70; (with_reducible refine (HI.out _ _ HU.out).mono ?_); rintro e w2 ⟨rfl, hb2⟩))
      rename_i hH
      obtain ⟨q1, q2, q3⟩ := hH
      clear hwr
      have s2 : w.heap.size ≤ w2.heap.size := by have := hb2.size; have e : (wr.alloc (Obj.cells #[Value.int IntKind.i64 tag, Value.slice A1 V c1, Value.slice A2 M c2] 58)).drew.heap.size = wr.heap.size + 1 := alloc_size _ _; omega
      have hw2 : Below w.heap.size w w2 := hbel.trans ((after_alloc_drew hb2).mono hsz)
      go_wp2_with fail
      refine (HC1.out w2).mono ?_
      rintro e w3 ⟨v3, rfl, hv3, hb3⟩
      obtain ⟨A3, c3, rfl, _⟩ := hv3.1
      go_wp2_with fail
      refine (HC2.out w3).mono ?_
      rintro e w4 ⟨v4, rfl, hv4, hb4⟩
      obtain ⟨A4, c4, rfl, _⟩ := hv4.1
      have hw4 : Below w.heap.size w w4 := hw2.trans ((hb3.trans (hb4.mono hb3.size)).mono s2)
      go_wp2_with fail
      go_roundw
      case rel => exact ⟨k + 1, by omega, by go_num, by have := HL.out; rw [← HS1.out]; go_num, hw4⟩
      case measure => simp [intOf]; omega
    · have hke : k = ts.length := by omega
      have HE : Hid (encL (ts.take k) = encL ts) := by
        show _ = _
        rw [hke, List.take_length]
      rw [HE.out]
      go_wp2_with fail
      go_ret
      exact ⟨rfl, hbel⟩
end Go.Proofs.Ytahnmnbjgbfeaaa
