/-
  Itoa of small numbers; strings.Join with a comma and a space.
-/
import Derived.Test.YtjkbfogjfgnhiaaDoorLtb
import Derived.Lib.AppendStr
import Derived.WalkSpells
namespace Go.Proofs.YtjkbfogjfgnhiaaDoor
set_option linter.unusedVariables false
set_option linter.unusedSimpArgs false
open Go.RowKit

def decF (n : Nat) : List UInt8 := if n < 10 then [UInt8.ofNat (48 + n)] else [UInt8.ofNat (48 + n / 10), UInt8.ofNat (48 + n % 10)]
set_option maxRecDepth 100000 in
set_option maxHeartbeats 1600000 in
theorem small_any (n : Nat) (hn : n < 100) (w : World) : Calls Tryd.prog 119 #[.int .i64 (n : Int)] w fun e w' => e = .returned (.string ⟨(decF n).toArray⟩) ∧ w = w' := by
  have i1 : 0 ≤ (n : Int) := by omega
  have i2 : (n : Int) + 1 ≤ 100 := by omega
  by_cases h10 : n < 10
  · go_enter Tryd.func119, Tryd.ntmps119
    go_wp2_with fail
    go_ret
    refine ⟨?_, rfl⟩
    clear i1 i2
    match n, h10 with
    | 0, _ | 1, _ | 2, _ | 3, _ | 4, _ | 5, _ | 6, _ | 7, _ | 8, _ | 9, _ => rfl
    | n + 10, h => exact absurd h (by omega)
  · go_enter Tryd.func119, Tryd.ntmps119
    go_wp2_with fail
    go_ret
    refine ⟨?_, rfl⟩
    clear i1 i2
    obtain ⟨m, rfl⟩ : ∃ m, n = m + 10 := ⟨n - 10, by omega⟩
    have hm : m < 90 := by omega
    clear hn h10
    match m, hm with
    | 0, _ | 1, _ | 2, _ | 3, _ | 4, _ | 5, _ | 6, _ | 7, _ | 8, _ | 9, _ | 10, _ | 11, _ | 12, _ | 13, _ | 14, _ | 15, _ | 16, _ | 17, _ | 18, _ | 19, _ | 20, _ | 21, _ | 22, _ | 23, _ | 24, _ | 25, _ | 26, _ | 27, _ | 28, _ | 29, _ | 30, _ | 31, _ | 32, _ | 33, _ | 34, _ | 35, _ | 36, _ | 37, _ | 38, _ | 39, _ | 40, _ | 41, _ | 42, _ | 43, _ | 44, _ | 45, _ | 46, _ | 47, _ | 48, _ | 49, _ | 50, _ | 51, _ | 52, _ | 53, _ | 54, _ | 55, _ | 56, _ | 57, _ | 58, _ | 59, _ | 60, _ | 61, _ | 62, _ | 63, _ | 64, _ | 65, _ | 66, _ | 67, _ | 68, _ | 69, _ | 70, _ | 71, _ | 72, _ | 73, _ | 74, _ | 75, _ | 76, _ | 77, _ | 78, _ | 79, _ | 80, _ | 81, _ | 82, _ | 83, _ | 84, _ | 85, _ | 86, _ | 87, _ | 88, _ | 89, _ => rfl
    | m + 90, h => exact absurd h (by omega)
set_option maxRecDepth 100000 in
theorem fmti_any (n : Nat) (hn : n < 100) (w : World) : Calls Tryd.prog 114 #[.int .i64 (n : Int), .int .i64 10] w fun e w' => e = .returned (.string ⟨(decF n).toArray⟩) ∧ w = w' := by
  have HS := Lib.hid (small_any n hn w)
  have i1 : 0 ≤ (n : Int) := by omega
  have i2 : (n : Int) < 100 := by omega
  go_enter Tryd.func114, Tryd.ntmps114
  go_wp2_with fail
  refine HS.out.mono ?_
  rintro e w' ⟨rfl, rfl⟩
  go_wp2_with fail
  go_ret
  exact ⟨rfl, rfl⟩
set_option maxRecDepth 100000 in
theorem itob_any (n : Nat) (hn : n < 100) (w : World) : Calls Tryd.prog 101 #[.int .i64 (n : Int)] w fun e w' => e = .returned (.string ⟨(decF n).toArray⟩) ∧ w = w' := by
  have HS := Lib.hid (fmti_any n hn w)
  go_enter Tryd.func101, Tryd.ntmps101
  go_wp2_with fail
  refine HS.out.mono ?_
  rintro e w' ⟨rfl, rfl⟩
  go_wp2_with fail
  go_ret
  exact ⟨rfl, rfl⟩
set_option maxRecDepth 100000 in
theorem itoa_any (n : Nat) (hn : n < 100) (w : World) : Calls Tryd.prog 86 #[.int .i64 (n : Int)] w fun e w' => e = .returned (.string ⟨(decF n).toArray⟩) ∧ w = w' := by
  have HS := Lib.hid (itob_any n hn w)
  go_enter Tryd.func86, Tryd.ntmps86
  go_wp2_with fail
  refine HS.out.mono ?_
  rintro e w' ⟨rfl, rfl⟩
  go_wp2_with fail
  go_ret
  exact ⟨rfl, rfl⟩

def jn : List (List UInt8) → List UInt8
  | [] => []
  | [x] => x
  | x :: y :: r => x ++ 44 :: 32 :: jn (y :: r)
theorem jn_cons (x : List UInt8) (r : List (List UInt8)) (h : 0 < r.length) : jn (x :: r) = x ++ [44, 32] ++ jn r := by
  match r, h with
  | y :: r, _ => rw [jn]; simp
/-- What loop 2 has yet to write behind the first k parts. -/
def rest (ls : List (List UInt8)) : List UInt8 := ls.flatMap fun x => [44, 32] ++ x
theorem jn_rest : ∀ (x : List UInt8) (r : List (List UInt8)), jn (x :: r) = x ++ rest r
  | x, [] => by simp [jn, rest]
  | x, y :: r => by
    rw [jn_cons x (y :: r) (by simp), jn_rest y r]
    simp [rest]
def sumL (ls : List (List UInt8)) : Nat := (ls.map List.length).sum
theorem rest_len : ∀ r : List (List UInt8), (rest r).length = sumL r + 2 * r.length
  | [] => rfl
  | x :: r => by
    have := rest_len r
    simp only [rest, sumL, List.flatMap_cons, List.length_append, List.map_cons, List.sum_cons, List.length_cons, List.length_nil] at this ⊢
    omega
/-- v is a slice of strings that reads as ls. -/
def QL (w : World) (B : Nat) (v : Value) (ls : List (List UInt8)) : Prop :=
  ∃ A c, v = .slice A ls.length c ∧ ls.length ≤ c ∧ c ≤ maxLen ∧ Hid (0 < ls.length → ∃ b o, A = some ⟨b, o, none⟩ ∧ b < B ∧ ∀ k, k < ls.length → w.cell? ⟨b, o + k, none⟩ = some (.string ⟨(ls.getD k []).toArray⟩))
theorem QL.on {w w' : World} {v : Value} {ls : List (List UInt8)} (h : QL w w.heap.size v ls) (hb : Below w.heap.size w w') : QL w' w'.heap.size v ls := by
  obtain ⟨A, c, hv, h1, h2, h3⟩ := h
  refine ⟨A, c, hv, h1, h2, fun hp => ?_⟩
  obtain ⟨b, o, hA, hb1, hc⟩ := h3.out hp
  exact ⟨b, o, hA, Nat.lt_of_lt_of_le hb1 hb.size, fun k hk => (hb.cell (p := ⟨b, o + k, none⟩) hb1).trans (hc k hk)⟩

theorem sum_take : ∀ (ls : List (List UInt8)) (k : Nat), k < ls.length → sumL (ls.take (k + 1)) = sumL (ls.take k) + (ls.getD k []).length
  | [], k, h => absurd h (by simp)
  | x :: r, 0, _ => by simp [sumL, List.getD]
  | x :: r, k + 1, h => by
    have := sum_take r k (by simpa using h)
    simp only [sumL, List.take_succ_cons, List.map_cons, List.sum_cons] at this ⊢
    have e : (x :: r).getD (k + 1) [] = r.getD k [] := by simp [List.getD]
    rw [e]
    omega
theorem sum_take_le : ∀ (ls : List (List UInt8)) (k : Nat), sumL (ls.take k) ≤ sumL ls
  | [], k => by simp
  | x :: r, 0 => by simp [sumL]
  | x :: r, k + 1 => by
    have := sum_take_le r k
    simp only [sumL, List.take_succ_cons, List.map_cons, List.sum_cons] at this ⊢
    omega
theorem rest_take (r : List (List UInt8)) (k : Nat) (h : k < r.length) : rest (r.take (k + 1)) = rest (r.take k) ++ ([44, 32] ++ r.getD k []) := by
  rw [List.take_succ_eq_append_getElem h]
  simp only [rest, List.flatMap_append, List.flatMap_cons, List.flatMap_nil, List.append_nil]
  simp [List.getD, List.getElem?_eq_getElem h]
theorem rest_take_le (r : List (List UInt8)) (k : Nat) : (rest (r.take k)).length ≤ sumL r + 2 * r.length := by
  rw [rest_len]
  have h1 := sum_take_le r k
  have h2 : (r.take k).length ≤ r.length := by rw [List.length_take]; omega
  omega
theorem rest_take_len (ls : List (List UInt8)) (k : Nat) (h : k < ls.length) : (ls.getD k []).length ≤ sumL ls := by
  have h1 := sum_take ls k h
  have h2 := sum_take_le ls (k + 1)
  omega
theorem sum_drop : ∀ (ls : List (List UInt8)) (k : Nat), sumL (ls.drop k) ≤ sumL ls
  | [], k => by simp
  | x :: r, 0 => by simp
  | x :: r, k + 1 => by
    have := sum_drop r k
    simp only [sumL, List.drop_succ_cons, List.map_cons, List.sum_cons] at this ⊢
    omega
set_option maxRecDepth 100000 in
set_option maxHeartbeats 6400000 in
theorem join_any (ls : List (List UInt8)) (v : Value) (w : World) (hk : QL w w.heap.size v ls) (h0 : 0 < ls.length) (hm : ls.length ≤ 400) (hs : sumL ls ≤ 100000) :
    Calls Tryd.prog 87 #[v, .string ⟨#[44, 32]⟩] w fun e w' => e = .returned (.string ⟨(jn ls).toArray⟩) ∧ Below w.heap.size w w' := by
  obtain ⟨A, cap, rfl, h1, h2, h3⟩ := id hk
  unfold maxLen at h2
  obtain ⟨b1, o1, rfl, hb1, hc⟩ := h3.out h0
  have g0 := hc 0 h0
  by_cases h11 : ls.length = 1
  · obtain ⟨x, rfl⟩ : ∃ x, ls = [x] := List.length_eq_one_iff.1 h11
    simp only [List.length_cons, List.length_nil] at *
    have g0' : w.cell? ⟨b1, o1, none⟩ = some (.string ⟨x.toArray⟩) := by simpa [List.getD] using g0
    clear g0 hc h3 hk
    go_enter Tryd.func87, Tryd.ntmps87
    go_wp2_with fail
    go_ret
    exact ⟨rfl, Below.refl _ _⟩
  · have HC := Lib.hid hc
    clear hc h3
    have e0 : ((ls.length : Int) == 0) = false := by rw [beq_eq_false_iff_ne]; omega
    have e1 : ((ls.length : Int) == 1) = false := by rw [beq_eq_false_iff_ne]; omega
    have hq : (2 : Int) < 9223372036854775807 / ((ls.length : Int) - 1) := by
      have hp : (0 : Int) < (ls.length : Int) - 1 := by omega
      have h3 : (3 : Int) ≤ 9223372036854775807 / ((ls.length : Int) - 1) := (Int.le_ediv_iff_mul_le hp).2 (by omega)
      omega
    have hq2 : decide (9223372036854775807 / ((ls.length : Int) - 1) ≤ 2) = false := decide_eq_false (by omega)
    have hge : (2 : Int) ≤ (ls.length : Int) := by omega
    have hge1 : (0 : Int) ≤ (ls.length : Int) - 1 := by omega
    have hz1 : ((ls.length : Int) - 1 == 0) = false := by rw [beq_eq_false_iff_ne]; omega
    have hz2 : ¬ ((ls.length : Int) - 1 = 0) := by omega
    have HSL : Hid (sumL ls ≤ 100000) := hs
    clear hs
    go_enter Tryd.func87, Tryd.ntmps87
    go_wp2_with fail
    go_loopw [5, 41] (fun n i wr => ∃ (k : Nat), k ≤ ls.length ∧ i = .int .i64 k ∧ n = .int .i64 ((2 * (ls.length : Int) - 2) + (sumL (ls.take k) : Int)) ∧ Hid (Below w.heap.size w wr)) (fun _ i _ => ls.length - (intOf i).toNat)
    case atStart => exact ⟨0, Nat.zero_le _, rfl, by rw [List.take_zero]; exact congrArg _ (by simp [sumL]; omega), Below.refl _ _⟩
    case round =>
      obtain ⟨k, hkl, rfl, rfl, HB⟩ := hrel
      have hst := sum_take_le ls k
      by_cases hlt : k < ls.length
      · have hsk := sum_take ls k hlt
        have hst2 := sum_take_le ls (k + 1)
        have gk := (HB.out.cell (p := ⟨b1, o1 + k, none⟩) hb1).trans (HC.out k hlt)
        have hz5 : sumL (ls.take k) + (ls.getD k []).length ≤ 100000 := by have := HSL.out; omega
        have HSK := Lib.hid hsk
        clear hsk hst hst2
        generalize ls.getD k [] = x at *
        generalize sumL (ls.take k) = S at *
        have hsz : (ByteArray.mk x.toArray).size = x.length := by simp [ByteArray.size]
        go_wp2_with fail
        go_roundw
        case rel => exact ⟨k + 1, by omega, by go_num, by rw [HSK.out]; go_num, HB⟩
        case measure => simp [intOf]; omega
      · have hke : k = ls.length := by omega
        subst hke
        clear hq hq2 hz1 hz2 e0 e1 hst
        have hS : ∃ NN : Nat, (2 * (ls.length : Int) - 2) + (sumL (ls.take ls.length) : Int) = (NN : Int) ∧ NN ≤ 200000 := ⟨2 * ls.length - 2 + sumL (ls.take ls.length), by omega, by have := sum_take_le ls ls.length; have := HSL.out; omega⟩
        obtain ⟨NN, hNN, hNN2⟩ := hS
        rw [hNN]
        have hba := alloc_below wr (Obj.cells #[.pointer none, .slice none 0 0] 121)
        have HGR := Lib.hid (Tryd.Builder_Grow_fresh wr.heap.size wr.heap.size NN _ (Nat.le_refl _) (heap_alloc_new wr (Obj.cells #[.pointer none, .slice none 0 0] 121)) hba.size (by omega))
        have HBA := Lib.hid hba
        have HLS := Lib.hid (show ∃ x0 r, ls = x0 :: r by cases ls with | nil => simp at h0 | cons a b => exact ⟨a, b, rfl⟩)
        have hwr := Nat.lt_of_lt_of_le hb1 HB.out.size
        clear hba hNN hNN2
        go_wp2_with fail
        refine HGR.out.mono ?_
        rintro e w2 ⟨rfl, hbu2, hb2⟩
        have HTB2 : Hid (TB w2 wr.heap.size wr.heap.size []) := .inr hbu2
        have HB2 := Lib.hid ((HBA.out.trans hb2))
        have gk0 := ((HB2.out.cell (p := ⟨b1, o1 + 0, none⟩) hwr).trans (HB.out.cell (p := ⟨b1, o1 + 0, none⟩) hb1)).trans g0
        simp only [Nat.add_zero] at gk0
        have HX0 := Lib.hid (sum_take ls 0 h0)
        have HXL := Lib.hid (sum_take_le ls 1)
        obtain ⟨x0, hx0⟩ : ∃ x0, ls.getD 0 [] = x0 := ⟨_, rfl⟩
        have hx0l : x0.length ≤ 100000 := by
          have h1 := HX0.out
          have h2 := HXL.out
          have h3 := HSL.out
          rw [hx0] at h1
          simp only [Nat.zero_add] at h1
          omega
        rw [hx0] at gk0
        have HXX := Lib.hid hx0
        have HWS := Lib.hid (pws wr.heap.size wr.heap.size [] ⟨x0.toArray⟩ w2 HTB2.out (by simp [ByteArray.size]; omega))
        clear hbu2 hb2 hx0 g0
        go_wp2_with fail
        refine HWS.out.mono ?_
        rintro e w3 ⟨rfl, htb3, hb3, _⟩
        have HTB3 := Lib.hid htb3
        have HB3 := Lib.hid (HB2.out.trans hb3)
        clear htb3 hb3 gk0
        go_wp2_with fail
        obtain ⟨wo, rfl⟩ : ∃ wo : World, wo = wr := ⟨_, rfl⟩
        obtain ⟨M, hM⟩ : ∃ M, M = ls.length - 1 := ⟨_, rfl⟩
        have hML : M + 1 = ls.length := by omega
        rw [← hM]
        have HML := Lib.hid hML
        have hm1 : M + 1 ≤ ls.length := by omega
        have hm2 : ls.length ≤ M + 1 := by omega
        clear hM hML
        go_loopw [10, 65] (fun _ i wr => ∃ (k : Nat), k ≤ M ∧ i = .int .i64 k ∧ Hid (TB wr wo.heap.size wo.heap.size (x0 ++ rest ((ls.drop 1).take k))) ∧ Hid (Below wo.heap.size wo wr)) (fun _ i _ => M - (intOf i).toNat)
        case atStart => exact ⟨0, Nat.zero_le _, rfl, by show TB _ _ _ _; rw [List.take_zero]; simpa [rest] using HTB3.out, HB3⟩
        case round =>
          obtain ⟨k, hkm, rfl, HT, HBB⟩ := hrel
          by_cases hlt : k < M
          · have gk := ((HBB.out.cell (p := ⟨b1, o1 + (k + 1), none⟩) hwr).trans (HB.out.cell (p := ⟨b1, o1 + (k + 1), none⟩) hb1)).trans (HC.out (k + 1) (by omega))
            rw [show o1 + (k + 1) = o1 + 1 + k by omega] at gk
            have hrk := rest_take (ls.drop 1) k (by rw [List.length_drop]; omega)
            have hgd : (ls.drop 1).getD k [] = ls.getD (k + 1) [] := by simp [List.getD, Nat.add_comm]
            rw [hgd] at hrk
            have hln := rest_take_len ls (k + 1) (by omega)
            have hlr := rest_take_le (ls.drop 1) k
            have hxl : x0.length ≤ 100000 := hx0l
            have hsd := sum_drop ls 1
            have hsl := HSL.out
            have hdl : (ls.drop 1).length ≤ 400 := by rw [List.length_drop]; omega
            have hL1 : (x0 ++ rest ((ls.drop 1).take k)).length ≤ 300000 := by rw [List.length_append]; omega
            have hx5 : (ls.getD (k + 1) []).length ≤ 100000 := by omega
            have HRK := Lib.hid hrk
            clear hrk hgd hlr hsd hsl hdl
            generalize ls.getD (k + 1) [] = x at *
            have HL1 := Lib.hid hL1
            have hwo : wo.heap.size ≤ wr.heap.size := HBB.out.size
            have HW1 := Lib.hid (pws wo.heap.size wo.heap.size _ ⟨#[44, 32]⟩ wr HT.out (by have := HL1.out; simp [ByteArray.size]; simp at this; omega))
            clear hL1
            go_wp2_with fail
            refine HW1.out.mono ?_
            rintro e w5 ⟨rfl, htb5, hb5, _⟩
            have HW2 := Lib.hid (pws wo.heap.size wo.heap.size _ ⟨x.toArray⟩ w5 htb5 (by have := HL1.out; simp [ByteArray.size]; simp at this; omega))
            have HB5 := Lib.hid (HBB.out.trans hb5)
            clear htb5 hb5
            go_wp2_with fail
            refine HW2.out.mono ?_
            rintro e w6 ⟨rfl, htb6, hb6, _⟩
            have HT6 := Lib.hid htb6
            have HB6 := Lib.hid (HB5.out.trans hb6)
            clear htb6 hb6
            go_wp2_with fail
            go_roundw
            case rel => exact ⟨k + 1, by omega, by go_num, by show TB _ _ _ _; rw [HRK.out]; simpa using HT6.out, HB6⟩
            case measure => simp [intOf]; omega
          · have HJ : Hid (x0 ++ rest ((ls.drop 1).take k) = jn ls) := by
              show _ = _
              obtain ⟨y0, r, hyr⟩ := HLS.out
              have hk2 : k = r.length := by have hML := HML.out; rw [hyr] at hML; simp at hML; omega
              have hx2 := HXX.out
              rw [hyr] at hx2 ⊢
              simp only [List.getD, List.getElem?_cons_zero, Option.getD_some] at hx2
              rw [jn_rest, hx2, hk2]
              simp
            have HST := Lib.hid (Tryd.Builder_String_any wo.heap.size wo.heap.size _ wr HT.out HBB.out.size)
            have HBW := Lib.hid (HB.out.trans (HBB.out.mono HB.out.size))
            have HSB := Lib.hid HB.out.size
            go_wp2_with fail
            refine HST.out.mono ?_
            rintro e w7 ⟨rfl, hb7⟩
            have HB7 := Lib.hid (HBW.out.trans (hb7.mono HSB.out))
            clear hb7
            rw [HJ.out]
            go_wp2_with fail
            go_ret
            exact ⟨rfl, HB7.out⟩
end Go.Proofs.YtjkbfogjfgnhiaaDoor
