/-
  The walk of the reference's text, and of its Text.
-/
import Derived.Test.YtjkbfogjfgnhiaaDoorNum
namespace Go.Proofs.YtjkbfogjfgnhiaaDoor
set_option linter.unusedVariables false
set_option linter.unusedSimpArgs false
open Go.RowKit

def RtxC (c : Cn) : Prop := ∀ (v : Value) (w : World), c.ok = true → c.cnt ≤ 400 → KL w w.heap.size v c.kids →
  Calls Tryd.prog 65 #[.agg #[.int .i64 c.op, .int .i64 c.n, v]] w fun e w' => e = .returned (.string ⟨c.txt.toArray⟩) ∧ Below w.heap.size w w'
theorem restR_take : ∀ (r : List (List UInt8)) (k : Nat) (h : k < r.length), rest (r.take (k + 1)) = rest (r.take k) ++ ([44, 32] ++ r.getD k [])
  | x :: r, 0, _ => by simp [rest, List.getD]
  | x :: r, k + 1, h => by
    have := restR_take r k (by simpa using h)
    rw [List.take_succ_cons, List.take_succ_cons]
    have e : (x :: r).getD (k + 1) [] = r.getD k [] := by simp [List.getD]
    rw [e]
    simp only [rest, List.flatMap_cons] at this ⊢
    rw [this]
    simp
theorem jn_take0 (l : List (List UInt8)) (h : 0 < l.length) : jn (l.take (0 + 1)) = l.getD 0 [] := by
  match l, h with
  | x :: r, _ => simp [jn, List.getD]
theorem jn_takeS (l : List (List UInt8)) (k : Nat) (hk : 0 < k) (h : k < l.length) : jn (l.take (k + 1)) = jn (l.take k) ++ ([44, 32] ++ l.getD k []) := by
  match l, k, hk, h with
  | x :: r, k + 1, _, h =>
    rw [List.take_succ_cons, jn_rest, List.take_succ_cons, jn_rest, restR_take r k (by simpa using h)]
    have e : (x :: r).getD (k + 1) [] = r.getD k [] := by simp [List.getD]
    rw [e, List.append_assoc]
theorem txtS_getD : ∀ (ts : List Cn) (k : Nat) (h : k < ts.length), (txtS ts).getD k [] = ts[k].txt
  | t :: ts, 0, _ => by simp [txtS, List.getD]
  | t :: ts, k + 1, h => by
    have := txtS_getD ts k (by simpa using h)
    simp only [txtS]
    have e : (t.txt :: txtS ts).getD (k + 1) [] = (txtS ts).getD k [] := by simp [List.getD]
    rw [e, this]
    simp
theorem jn_take_len (ls : List (List UInt8)) (k : Nat) (hk : k ≤ ls.length) : (jn (ls.take k)).length ≤ sumL ls + 2 * ls.length := by
  have h1 := jn_len (ls.take k)
  have h2 := sum_take_le ls k
  have h3 : (ls.take k).length = k := by rw [List.length_take]; omega
  rw [h3] at h1
  omega

set_option maxRecDepth 100000 in
set_option maxHeartbeats 1600000 in
theorem rtx0_any (n : Int) (ts : List Cn) (v : Value) (w : World) (hk : KL w w.heap.size v ts) :
    Calls Tryd.prog 65 #[.agg #[.int .i64 0, .int .i64 n, v]] w fun e w' => e = .returned (.string ⟨#[110, 101, 118, 101, 114]⟩) ∧ Below w.heap.size w w' := by
  obtain ⟨A, cap, rfl, _, _, _⟩ := id hk
  have HA := Lib.hid (alloc_below w (bx 0 n A ts.length cap))
  clear hk
  go_enter Tryd.func65, Tryd.ntmps65
  go_wp2_with fail
  go_ret
  exact ⟨rfl, HA.out⟩

set_option maxRecDepth 100000 in
set_option maxHeartbeats 1600000 in
theorem rtx1_any (n : Int) (ts : List Cn) (v : Value) (w : World) (hk : KL w w.heap.size v ts) :
    Calls Tryd.prog 65 #[.agg #[.int .i64 1, .int .i64 n, v]] w fun e w' => e = .returned (.string ⟨#[97, 108, 119, 97, 121, 115]⟩) ∧ Below w.heap.size w w' := by
  obtain ⟨A, cap, rfl, _, _, _⟩ := id hk
  have HA := Lib.hid (alloc_below w (bx 1 n A ts.length cap))
  clear hk
  go_enter Tryd.func65, Tryd.ntmps65
  go_wp2_with fail
  go_ret
  exact ⟨rfl, HA.out⟩

set_option maxRecDepth 100000 in
set_option maxHeartbeats 1600000 in
theorem rtx2_any (m : Nat) (hm : m < 100) (ts : List Cn) (v : Value) (w : World) (hk : KL w w.heap.size v ts) :
    Calls Tryd.prog 65 #[.agg #[.int .i64 2, .int .i64 (m : Int), v]] w fun e w' => e = .returned (.string ⟨([112, 105, 110, 32] ++ decF m).toArray⟩) ∧ Below w.heap.size w w' := by
  obtain ⟨A, cap, rfl, _, _, _⟩ := id hk
  have HA := Lib.hid (alloc_below w (bx 2 (m : Int) A ts.length cap))
  have HQ := Lib.hid (rnum_any m hm (w.alloc (bx 2 (m : Int) A ts.length cap)))
  have hd2 := decF_len m
  have hA1 : ∀ W : World, Sem.run Tryd.prog (Op.stringOp .add ⟨#[112, 105, 110, 32]⟩ ⟨(decF m).toArray⟩) W = .ok (.string (⟨#[112, 105, 110, 32]⟩ ++ ⟨(decF m).toArray⟩)) W := (add_run _ _ (by rw [bsz (decF m)]; show 4 + _ ≤ _; omega))
  have HEQ : Hid ((⟨#[112, 105, 110, 32]⟩ : ByteArray) ++ ⟨(decF m).toArray⟩ = ⟨([112, 105, 110, 32] ++ decF m).toArray⟩) := app_mk [112, 105, 110, 32] (decF m)
  generalize (⟨#[112, 105, 110, 32]⟩ : ByteArray) ++ ⟨(decF m).toArray⟩ = Z at *
  clear hk hd2
  go_enter Tryd.func65, Tryd.ntmps65
  go_wp2_with fail
  refine HQ.out.mono ?_
  rintro e w1 ⟨rfl, hb1⟩
  go_wp2_with fail
  go_ret
  exact ⟨congrArg (fun z => Ending.returned (Value.string z)) HEQ.out, HA.out.trans (hb1.mono HA.out.size)⟩

set_option maxRecDepth 100000 in
set_option maxHeartbeats 1600000 in
theorem rtx3_any (m : Nat) (hm : m < 100) (ts : List Cn) (v : Value) (w : World) (hk : KL w w.heap.size v ts) :
    Calls Tryd.prog 65 #[.agg #[.int .i64 3, .int .i64 (m : Int), v]] w fun e w' => e = .returned (.string ⟨([107, 101, 121, 32] ++ decF m).toArray⟩) ∧ Below w.heap.size w w' := by
  obtain ⟨A, cap, rfl, _, _, _⟩ := id hk
  have HA := Lib.hid (alloc_below w (bx 3 (m : Int) A ts.length cap))
  have HQ := Lib.hid (rnum_any m hm (w.alloc (bx 3 (m : Int) A ts.length cap)))
  have hd2 := decF_len m
  have hA1 : ∀ W : World, Sem.run Tryd.prog (Op.stringOp .add ⟨#[107, 101, 121, 32]⟩ ⟨(decF m).toArray⟩) W = .ok (.string (⟨#[107, 101, 121, 32]⟩ ++ ⟨(decF m).toArray⟩)) W := (add_run _ _ (by rw [bsz (decF m)]; show 4 + _ ≤ _; omega))
  have HEQ : Hid ((⟨#[107, 101, 121, 32]⟩ : ByteArray) ++ ⟨(decF m).toArray⟩ = ⟨([107, 101, 121, 32] ++ decF m).toArray⟩) := app_mk [107, 101, 121, 32] (decF m)
  generalize (⟨#[107, 101, 121, 32]⟩ : ByteArray) ++ ⟨(decF m).toArray⟩ = Z at *
  clear hk hd2
  go_enter Tryd.func65, Tryd.ntmps65
  go_wp2_with fail
  refine HQ.out.mono ?_
  rintro e w1 ⟨rfl, hb1⟩
  go_wp2_with fail
  go_ret
  exact ⟨congrArg (fun z => Ending.returned (Value.string z)) HEQ.out, HA.out.trans (hb1.mono HA.out.size)⟩

set_option maxRecDepth 100000 in
set_option maxHeartbeats 1600000 in
theorem rtx4_any (m : Nat) (hm : m < 100) (ts : List Cn) (v : Value) (w : World) (hk : KL w w.heap.size v ts) :
    Calls Tryd.prog 65 #[.agg #[.int .i64 4, .int .i64 (m : Int), v]] w fun e w' => e = .returned (.string ⟨([115, 116, 97, 116, 101, 32] ++ decF m).toArray⟩) ∧ Below w.heap.size w w' := by
  obtain ⟨A, cap, rfl, _, _, _⟩ := id hk
  have HA := Lib.hid (alloc_below w (bx 4 (m : Int) A ts.length cap))
  have HQ := Lib.hid (rnum_any m hm (w.alloc (bx 4 (m : Int) A ts.length cap)))
  have hd2 := decF_len m
  have hA1 : ∀ W : World, Sem.run Tryd.prog (Op.stringOp .add ⟨#[115, 116, 97, 116, 101, 32]⟩ ⟨(decF m).toArray⟩) W = .ok (.string (⟨#[115, 116, 97, 116, 101, 32]⟩ ++ ⟨(decF m).toArray⟩)) W := (add_run _ _ (by rw [bsz (decF m)]; show 6 + _ ≤ _; omega))
  have HEQ : Hid ((⟨#[115, 116, 97, 116, 101, 32]⟩ : ByteArray) ++ ⟨(decF m).toArray⟩ = ⟨([115, 116, 97, 116, 101, 32] ++ decF m).toArray⟩) := app_mk [115, 116, 97, 116, 101, 32] (decF m)
  generalize (⟨#[115, 116, 97, 116, 101, 32]⟩ : ByteArray) ++ ⟨(decF m).toArray⟩ = Z at *
  clear hk hd2
  go_enter Tryd.func65, Tryd.ntmps65
  go_wp2_with fail
  refine HQ.out.mono ?_
  rintro e w1 ⟨rfl, hb1⟩
  go_wp2_with fail
  go_ret
  exact ⟨congrArg (fun z => Ending.returned (Value.string z)) HEQ.out, HA.out.trans (hb1.mono HA.out.size)⟩

set_option maxRecDepth 100000 in
set_option maxHeartbeats 1600000 in
theorem rtx5_any (m : Nat) (hm : m < 100) (ts : List Cn) (v : Value) (w : World) (hk : KL w w.heap.size v ts) :
    Calls Tryd.prog 65 #[.agg #[.int .i64 5, .int .i64 (m : Int), v]] w fun e w' => e = .returned (.string ⟨([108, 101, 118, 101, 108, 32] ++ decF m).toArray⟩) ∧ Below w.heap.size w w' := by
  obtain ⟨A, cap, rfl, _, _, _⟩ := id hk
  have HA := Lib.hid (alloc_below w (bx 5 (m : Int) A ts.length cap))
  have HQ := Lib.hid (rnum_any m hm (w.alloc (bx 5 (m : Int) A ts.length cap)))
  have hd2 := decF_len m
  have hA1 : ∀ W : World, Sem.run Tryd.prog (Op.stringOp .add ⟨#[108, 101, 118, 101, 108, 32]⟩ ⟨(decF m).toArray⟩) W = .ok (.string (⟨#[108, 101, 118, 101, 108, 32]⟩ ++ ⟨(decF m).toArray⟩)) W := (add_run _ _ (by rw [bsz (decF m)]; show 6 + _ ≤ _; omega))
  have HEQ : Hid ((⟨#[108, 101, 118, 101, 108, 32]⟩ : ByteArray) ++ ⟨(decF m).toArray⟩ = ⟨([108, 101, 118, 101, 108, 32] ++ decF m).toArray⟩) := app_mk [108, 101, 118, 101, 108, 32] (decF m)
  generalize (⟨#[108, 101, 118, 101, 108, 32]⟩ : ByteArray) ++ ⟨(decF m).toArray⟩ = Z at *
  clear hk hd2
  go_enter Tryd.func65, Tryd.ntmps65
  go_wp2_with fail
  refine HQ.out.mono ?_
  rintro e w1 ⟨rfl, hb1⟩
  go_wp2_with fail
  go_ret
  exact ⟨congrArg (fun z => Ending.returned (Value.string z)) HEQ.out, HA.out.trans (hb1.mono HA.out.size)⟩

set_option maxRecDepth 100000 in
set_option maxHeartbeats 6400000 in
theorem rtx6_any (n : Int) (ts : List Cn) (hC : ∀ (k : Nat) (h : k < ts.length), RtxC ts[k]) (hok : okK ts = true) (hcn : cntK ts ≤ 400) (v : Value) (w : World) (hk : KL w w.heap.size v ts) :
    Calls Tryd.prog 65 #[.agg #[.int .i64 6, .int .i64 n, v]] w fun e w' => e = .returned (.string ⟨([97, 110, 100, 40] ++ jn (txtS ts) ++ [41]).toArray⟩) ∧ Below w.heap.size w w' := by
  obtain ⟨A, cap, rfl, h1, h2, h3⟩ := hk
  unfold maxLen at h2
  have HA := Lib.hid (alloc_below w (bx 6 n A ts.length cap))
  have HS0 := Lib.hid (alloc_size w (bx 6 n A ts.length cap))
  have HN0 := Lib.hid (heap_alloc_new w (bx 6 n A ts.length cap))
  have HC := Lib.hid hC
  have HOK := Lib.hid hok
  have hTL := txtS_len ts
  have hL := cntK_len ts
  have hLS := txtS_length ts
  have HJL : Hid (∀ k, k ≤ ts.length → (jn ((txtS ts).take k)).length ≤ 5000) := fun k hk => by
    have := jn_take_len (txtS ts) k (by omega)
    omega
  clear hC hok hTL
  go_enter Tryd.func65, Tryd.ntmps65
  go_wp2_with fail
  go_loopw [3, 4] (fun q i wr => ∃ (k : Nat) (Z : ByteArray), k ≤ ts.length ∧ i = .int .i64 k ∧ q = .string Z ∧ Hid (Z = ⟨([97, 110, 100, 40] ++ jn ((txtS ts).take k)).toArray⟩) ∧ Hid (Below (w.heap.size + 1) (w.alloc (bx 6 n A ts.length cap)) wr)) (fun _ i _ => ts.length - (intOf i).toNat)
  case atStart => exact ⟨0, ⟨#[97, 110, 100, 40]⟩, Nat.zero_le _, rfl, rfl, by show _ = _; rw [List.take_zero]; rfl, Below.refl _ _⟩
  case round =>
    obtain ⟨k, Z, hkl, rfl, rfl, HZ, HB⟩ := hrel
    have HBW := Lib.hid (HA.out.trans (HB.out.mono (show w.heap.size ≤ w.heap.size + 1 by omega)))
    have hsr := HB.out.size
    rw [HS0.out] at hsr
    have kk := (HB.out.block w.heap.size (by omega)).trans HN0.out
    have p2 := cell_of_row _ _ 2 _ _ _ kk
    clear kk
    have hzs : Z.size ≤ 5010 := by
      rw [HZ.out, bsz, List.length_append]
      have := HJL.out k hkl
      show 4 + _ ≤ _
      omega
    by_cases hlt : k < ts.length
    · obtain ⟨b1, o1, rfl, hb1, hts⟩ := h3.out (by omega)
      have hta := CnsAt.get hts hlt
      have hcd := cntK_get ts k hlt
      have hokt := okK_get ts k hlt HOK.out
      have hCt := HC.out k hlt
      have hgd := txtS_getD ts k hlt
      have hst : 0 < k → jn ((txtS ts).take (k + 1)) = jn ((txtS ts).take k) ++ ([44, 32] ++ (txtS ts).getD k []) := fun hp => jn_takeS (txtS ts) k hp (by omega)
      have hs0 : k = 0 → jn ((txtS ts).take (k + 1)) = (txtS ts).getD k [] := fun hp => by subst hp; exact jn_take0 (txtS ts) (by omega)
      rw [hgd] at hst hs0
      obtain ⟨t, ht⟩ : ∃ t, t = ts[k] := ⟨_, rfl⟩
      rw [← ht] at hta hcd hokt hCt hst hs0
      have htl := Cn.txt_len t
      have hta' := CnAt.keep HBW.out.size (fun p hp => HBW.out.cell hp) t b1 _ hb1 hta
      obtain ⟨A2, c2, g1, g2, g3, hu⟩ := hta'.cells
      have HV := Lib.hid (hCt (.slice A2 t.kids.length c2) _ hokt (by omega) hu)
      have HST := Lib.hid hst
      have HS1 := Lib.hid hs0
      have i1 : (0 : Int) ≤ (k : Int) := by omega
      have i2 : (k : Int) < (ts.length : Int) := by omega
      have hxl : t.txt.length ≤ 5000 := by omega
      clear hta hta' hts ht hu hcd hokt hCt hgd hst hs0 htl
      generalize t.txt = x at *
      by_cases h0 : 0 < k
      · have hA1 : ∀ W : World, Sem.run Tryd.prog (Op.stringOp .add Z ⟨#[44, 32]⟩) W = .ok (.string (Z ++ ⟨#[44, 32]⟩)) W := (add_run _ _ (by show _ + 2 ≤ _; omega))
        have hA2 : ∀ W : World, Sem.run Tryd.prog (Op.stringOp .add (Z ++ ⟨#[44, 32]⟩) ⟨x.toArray⟩) W = .ok (.string (Z ++ ⟨#[44, 32]⟩ ++ ⟨x.toArray⟩)) W := (add_run _ _ (by rw [ByteArray.size_append, bsz x]; show _ + 2 + _ ≤ _; omega))
        have HEQ : Hid (Z ++ ⟨#[44, 32]⟩ ++ ⟨x.toArray⟩ = ⟨([97, 110, 100, 40] ++ jn ((txtS ts).take (k + 1))).toArray⟩) := by
          show _ = _
          rw [HZ.out, HST.out h0]
          apply ByteArray.ext
          simp
        generalize Z ++ ⟨#[44, 32]⟩ = Z1 at *
        generalize Z1 ++ ⟨x.toArray⟩ = Z2 at *
        have i3 : 0 < (k : Int) := by omega
        clear hzs hxl
        go_wp2_with fail
        refine HV.out.mono ?_
        rintro e w5 ⟨rfl, hb5⟩
        have HB5 := Lib.hid (HB.out.trans (hb5.mono (by omega)))
        clear hb5
        go_wp2_with fail
        go_roundw
        case rel => exact ⟨k + 1, Z2, by omega, by go_num, rfl, HEQ, HB5⟩
        case measure => simp [intOf]; omega
      · have hk0 : k = 0 := by omega
        have i3 : ¬ 0 < (k : Int) := by omega
        have hA2 : ∀ W : World, Sem.run Tryd.prog (Op.stringOp .add Z ⟨x.toArray⟩) W = .ok (.string (Z ++ ⟨x.toArray⟩)) W := (add_run _ _ (by rw [bsz x]; omega))
        have HEQ : Hid (Z ++ ⟨x.toArray⟩ = ⟨([97, 110, 100, 40] ++ jn ((txtS ts).take (k + 1))).toArray⟩) := by
          show _ = _
          rw [HZ.out, HS1.out hk0, hk0, List.take_zero]
          apply ByteArray.ext
          simp [jn]
        generalize Z ++ ⟨x.toArray⟩ = Z2 at *
        clear hzs hxl hk0
        go_wp2_with fail
        refine HV.out.mono ?_
        rintro e w5 ⟨rfl, hb5⟩
        have HB5 := Lib.hid (HB.out.trans (hb5.mono (by omega)))
        clear hb5
        go_wp2_with fail
        go_roundw
        case rel => exact ⟨k + 1, Z2, by omega, by go_num, rfl, HEQ, HB5⟩
        case measure => simp [intOf]; omega
    · have hkk : k = ts.length := by omega
      have hA1 : ∀ W : World, Sem.run Tryd.prog (Op.stringOp .add Z ⟨#[41]⟩) W = .ok (.string (Z ++ ⟨#[41]⟩)) W := (add_run _ _ (by show _ + 1 ≤ _; omega))
      have HEQ : Hid (Z ++ ⟨#[41]⟩ = ⟨([97, 110, 100, 40] ++ jn (txtS ts) ++ [41]).toArray⟩) := by
        show _ = _
        rw [HZ.out, show (txtS ts).take k = txtS ts by rw [hkk, ← txtS_length, List.take_length]]
        apply ByteArray.ext
        simp
      generalize Z ++ ⟨#[41]⟩ = Z1 at *
      clear hzs hkk
      go_wp2_with fail
      go_ret
      exact ⟨congrArg (fun z => Ending.returned (Value.string z)) HEQ.out, HBW.out⟩

set_option maxRecDepth 100000 in
set_option maxHeartbeats 6400000 in
theorem rtx7_any (n : Int) (ts : List Cn) (hC : ∀ (k : Nat) (h : k < ts.length), RtxC ts[k]) (hok : okK ts = true) (hcn : cntK ts ≤ 400) (v : Value) (w : World) (hk : KL w w.heap.size v ts) :
    Calls Tryd.prog 65 #[.agg #[.int .i64 7, .int .i64 n, v]] w fun e w' => e = .returned (.string ⟨([111, 114, 40] ++ jn (txtS ts) ++ [41]).toArray⟩) ∧ Below w.heap.size w w' := by
  obtain ⟨A, cap, rfl, h1, h2, h3⟩ := hk
  unfold maxLen at h2
  have HA := Lib.hid (alloc_below w (bx 7 n A ts.length cap))
  have HS0 := Lib.hid (alloc_size w (bx 7 n A ts.length cap))
  have HN0 := Lib.hid (heap_alloc_new w (bx 7 n A ts.length cap))
  have HC := Lib.hid hC
  have HOK := Lib.hid hok
  have hTL := txtS_len ts
  have hL := cntK_len ts
  have hLS := txtS_length ts
  have HJL : Hid (∀ k, k ≤ ts.length → (jn ((txtS ts).take k)).length ≤ 5000) := fun k hk => by
    have := jn_take_len (txtS ts) k (by omega)
    omega
  clear hC hok hTL
  go_enter Tryd.func65, Tryd.ntmps65
  go_wp2_with fail
  go_loopw [3, 4] (fun q i wr => ∃ (k : Nat) (Z : ByteArray), k ≤ ts.length ∧ i = .int .i64 k ∧ q = .string Z ∧ Hid (Z = ⟨([111, 114, 40] ++ jn ((txtS ts).take k)).toArray⟩) ∧ Hid (Below (w.heap.size + 1) (w.alloc (bx 7 n A ts.length cap)) wr)) (fun _ i _ => ts.length - (intOf i).toNat)
  case atStart => exact ⟨0, ⟨#[111, 114, 40]⟩, Nat.zero_le _, rfl, rfl, by show _ = _; rw [List.take_zero]; rfl, Below.refl _ _⟩
  case round =>
    obtain ⟨k, Z, hkl, rfl, rfl, HZ, HB⟩ := hrel
    have HBW := Lib.hid (HA.out.trans (HB.out.mono (show w.heap.size ≤ w.heap.size + 1 by omega)))
    have hsr := HB.out.size
    rw [HS0.out] at hsr
    have kk := (HB.out.block w.heap.size (by omega)).trans HN0.out
    have p2 := cell_of_row _ _ 2 _ _ _ kk
    clear kk
    have hzs : Z.size ≤ 5010 := by
      rw [HZ.out, bsz, List.length_append]
      have := HJL.out k hkl
      show 3 + _ ≤ _
      omega
    by_cases hlt : k < ts.length
    · obtain ⟨b1, o1, rfl, hb1, hts⟩ := h3.out (by omega)
      have hta := CnsAt.get hts hlt
      have hcd := cntK_get ts k hlt
      have hokt := okK_get ts k hlt HOK.out
      have hCt := HC.out k hlt
      have hgd := txtS_getD ts k hlt
      have hst : 0 < k → jn ((txtS ts).take (k + 1)) = jn ((txtS ts).take k) ++ ([44, 32] ++ (txtS ts).getD k []) := fun hp => jn_takeS (txtS ts) k hp (by omega)
      have hs0 : k = 0 → jn ((txtS ts).take (k + 1)) = (txtS ts).getD k [] := fun hp => by subst hp; exact jn_take0 (txtS ts) (by omega)
      rw [hgd] at hst hs0
      obtain ⟨t, ht⟩ : ∃ t, t = ts[k] := ⟨_, rfl⟩
      rw [← ht] at hta hcd hokt hCt hst hs0
      have htl := Cn.txt_len t
      have hta' := CnAt.keep HBW.out.size (fun p hp => HBW.out.cell hp) t b1 _ hb1 hta
      obtain ⟨A2, c2, g1, g2, g3, hu⟩ := hta'.cells
      have HV := Lib.hid (hCt (.slice A2 t.kids.length c2) _ hokt (by omega) hu)
      have HST := Lib.hid hst
      have HS1 := Lib.hid hs0
      have i1 : (0 : Int) ≤ (k : Int) := by omega
      have i2 : (k : Int) < (ts.length : Int) := by omega
      have hxl : t.txt.length ≤ 5000 := by omega
      clear hta hta' hts ht hu hcd hokt hCt hgd hst hs0 htl
      generalize t.txt = x at *
      by_cases h0 : 0 < k
      · have hA1 : ∀ W : World, Sem.run Tryd.prog (Op.stringOp .add Z ⟨#[44, 32]⟩) W = .ok (.string (Z ++ ⟨#[44, 32]⟩)) W := (add_run _ _ (by show _ + 2 ≤ _; omega))
        have hA2 : ∀ W : World, Sem.run Tryd.prog (Op.stringOp .add (Z ++ ⟨#[44, 32]⟩) ⟨x.toArray⟩) W = .ok (.string (Z ++ ⟨#[44, 32]⟩ ++ ⟨x.toArray⟩)) W := (add_run _ _ (by rw [ByteArray.size_append, bsz x]; show _ + 2 + _ ≤ _; omega))
        have HEQ : Hid (Z ++ ⟨#[44, 32]⟩ ++ ⟨x.toArray⟩ = ⟨([111, 114, 40] ++ jn ((txtS ts).take (k + 1))).toArray⟩) := by
          show _ = _
          rw [HZ.out, HST.out h0]
          apply ByteArray.ext
          simp
        generalize Z ++ ⟨#[44, 32]⟩ = Z1 at *
        generalize Z1 ++ ⟨x.toArray⟩ = Z2 at *
        have i3 : 0 < (k : Int) := by omega
        clear hzs hxl
        go_wp2_with fail
        refine HV.out.mono ?_
        rintro e w5 ⟨rfl, hb5⟩
        have HB5 := Lib.hid (HB.out.trans (hb5.mono (by omega)))
        clear hb5
        go_wp2_with fail
        go_roundw
        case rel => exact ⟨k + 1, Z2, by omega, by go_num, rfl, HEQ, HB5⟩
        case measure => simp [intOf]; omega
      · have hk0 : k = 0 := by omega
        have i3 : ¬ 0 < (k : Int) := by omega
        have hA2 : ∀ W : World, Sem.run Tryd.prog (Op.stringOp .add Z ⟨x.toArray⟩) W = .ok (.string (Z ++ ⟨x.toArray⟩)) W := (add_run _ _ (by rw [bsz x]; omega))
        have HEQ : Hid (Z ++ ⟨x.toArray⟩ = ⟨([111, 114, 40] ++ jn ((txtS ts).take (k + 1))).toArray⟩) := by
          show _ = _
          rw [HZ.out, HS1.out hk0, hk0, List.take_zero]
          apply ByteArray.ext
          simp [jn]
        generalize Z ++ ⟨x.toArray⟩ = Z2 at *
        clear hzs hxl hk0
        go_wp2_with fail
        refine HV.out.mono ?_
        rintro e w5 ⟨rfl, hb5⟩
        have HB5 := Lib.hid (HB.out.trans (hb5.mono (by omega)))
        clear hb5
        go_wp2_with fail
        go_roundw
        case rel => exact ⟨k + 1, Z2, by omega, by go_num, rfl, HEQ, HB5⟩
        case measure => simp [intOf]; omega
    · have hkk : k = ts.length := by omega
      have hA1 : ∀ W : World, Sem.run Tryd.prog (Op.stringOp .add Z ⟨#[41]⟩) W = .ok (.string (Z ++ ⟨#[41]⟩)) W := (add_run _ _ (by show _ + 1 ≤ _; omega))
      have HEQ : Hid (Z ++ ⟨#[41]⟩ = ⟨([111, 114, 40] ++ jn (txtS ts) ++ [41]).toArray⟩) := by
        show _ = _
        rw [HZ.out, show (txtS ts).take k = txtS ts by rw [hkk, ← txtS_length, List.take_length]]
        apply ByteArray.ext
        simp
      generalize Z ++ ⟨#[41]⟩ = Z1 at *
      clear hzs hkk
      go_wp2_with fail
      go_ret
      exact ⟨congrArg (fun z => Ending.returned (Value.string z)) HEQ.out, HBW.out⟩

theorem rtx_step (c : Cn) (ih : ∀ c' : Cn, c'.dep < c.dep → RtxC c') : RtxC c := by
  intro v w hok hcn hk
  have hp := ok_parts c
  rw [hok] at hp
  have hp' : okN c.op c.n c.kids.length = true ∧ okK c.kids = true := by simpa using hp.symm
  obtain ⟨hop, ho2, ho4, ho5, ho6, hok6, ho0⟩ := okN_op hp'.1
  have hkd := dep_kids c
  have hkc := cnt_kids c
  have hC : ∀ (k : Nat) (h : k < c.kids.length), RtxC c.kids[k] := fun k h => ih _ (by have := depK_get c.kids k h; omega)
  have htx := txt_parts c
  clear ih hp hok
  have hcn2 : cntK c.kids ≤ 400 := by omega
  rcases hop with h | h | h | h | h | h | h | h <;> rw [h] at htx ⊢
  · rw [htx]; exact rtx0_any c.n c.kids v w hk
  · rw [htx]; exact rtx1_any c.n c.kids v w hk
  · obtain ⟨m, hm⟩ := Int.eq_ofNat_of_zero_le (show 0 ≤ c.n by omega)
    rw [hm] at htx ⊢
    rw [htx]; exact rtx2_any m (by omega) c.kids v w hk
  · obtain ⟨m, hm⟩ := Int.eq_ofNat_of_zero_le (show 0 ≤ c.n by omega)
    rw [hm] at htx ⊢
    rw [htx]; exact rtx3_any m (by omega) c.kids v w hk
  · obtain ⟨m, hm⟩ := Int.eq_ofNat_of_zero_le (show 0 ≤ c.n by omega)
    rw [hm] at htx ⊢
    rw [htx]; exact rtx4_any m (by omega) c.kids v w hk
  · obtain ⟨m, hm⟩ := Int.eq_ofNat_of_zero_le (show 0 ≤ c.n by omega)
    rw [hm] at htx ⊢
    rw [htx]; exact rtx5_any m (by omega) c.kids v w hk
  · have e : c.txt = [97, 110, 100, 40] ++ jn (txtS c.kids) ++ [41] := htx.trans (by rw [List.append_assoc]; rfl)
    rw [e]; exact rtx6_any c.n c.kids hC hp'.2 hcn2 v w hk
  · have e : c.txt = [111, 114, 40] ++ jn (txtS c.kids) ++ [41] := htx.trans (by rw [List.append_assoc]; rfl)
    rw [e]; exact rtx7_any c.n c.kids hC hp'.2 hcn2 v w hk
theorem rtx_any : ∀ (n : Nat) (c : Cn), c.dep < n → RtxC c
  | 0, c, h => absurd h (by omega)
  | n + 1, c, h => rtx_step c fun c' h' => rtx_any n c' (by omega)
end Go.Proofs.YtjkbfogjfgnhiaaDoor
