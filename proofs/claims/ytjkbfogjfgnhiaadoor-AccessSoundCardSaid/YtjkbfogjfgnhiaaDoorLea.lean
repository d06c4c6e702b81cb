/-
  The walk of least.
-/
import Derived.Test.YtjkbfogjfgnhiaaDoorUni
namespace Go.Proofs.YtjkbfogjfgnhiaaDoor
set_option linter.unusedVariables false
set_option linter.unusedSimpArgs false
open Go.RowKit

mutual
/-- What least answers. -/
def Cn.lea : Cn → List Sc
  | .mk op n kids => if op = 1 then [Sc.zero] else if op = 2 then [⟨2 ^ n.toNat, 0, 0, 0⟩] else if op = 3 then [⟨0, 2 ^ n.toNat, 0, 0⟩] else if op = 4 then [⟨0, 0, n, 0⟩] else if op = 5 then [⟨0, 0, 0, n⟩] else if op = 6 then leaU kids [Sc.zero] else leaO kids []
def leaU : List Cn → List Sc → List Sc | [], l => l | t :: ts, l => leaU ts (unitL l t.lea)
def leaO : List Cn → List Sc → List Sc | [], l => l | t :: ts, l => leaO ts (addL l t.lea)
end
theorem lea_parts (t : Cn) : t.lea = if t.op = 1 then [Sc.zero] else if t.op = 2 then [⟨2 ^ t.n.toNat, 0, 0, 0⟩] else if t.op = 3 then [⟨0, 2 ^ t.n.toNat, 0, 0⟩] else if t.op = 4 then [⟨0, 0, t.n, 0⟩] else if t.op = 5 then [⟨0, 0, 0, t.n⟩] else if t.op = 6 then leaU t.kids [Sc.zero] else leaO t.kids [] := by
  cases t; rw [Cn.lea]; rfl
theorem leaU_drop (ts : List Cn) (k : Nat) (h : k < ts.length) (l : List Sc) : leaU (ts.drop k) l = leaU (ts.drop (k + 1)) (unitL l ts[k].lea) := by rw [List.drop_eq_getElem_cons h, leaU]
theorem leaO_drop (ts : List Cn) (k : Nat) (h : k < ts.length) (l : List Sc) : leaO (ts.drop k) l = leaO (ts.drop (k + 1)) (addL l ts[k].lea) := by rw [List.drop_eq_getElem_cons h, leaO]
theorem pow_add_le (a b : Nat) (ha : 1 ≤ a) (hb : 1 ≤ b) : 2 ^ a + 2 ^ b ≤ 2 ^ (a + b) := by
  have h1 : 2 ≤ 2 ^ a := by have := Nat.pow_le_pow_right (n := 2) (by omega) ha; simpa using this
  have h2 : 2 ≤ 2 ^ b := by have := Nat.pow_le_pow_right (n := 2) (by omega) hb; simpa using this
  rw [Nat.pow_add]
  generalize 2 ^ a = x at *
  generalize 2 ^ b = y at *
  have h3 : x * 2 ≤ x * y := Nat.mul_le_mul_left x h2
  have h4 : 2 * y ≤ x * y := Nat.mul_le_mul_right y h1
  omega
theorem cnt_pos (t : Cn) : 1 ≤ t.cnt := by have := cnt_kids t; omega
theorem unit_len (a b : List Sc) : (unitL a b).length ≤ a.length * b.length := by
  have := unitL_len b a []
  simpa [unitL] using this
mutual
theorem Cn.lea_len : ∀ t : Cn, t.lea.length * 2 ≤ 2 ^ t.cnt
  | .mk op n ks => by
    have h1 := leaU_len ks [Sc.zero]
    have h2 := leaO_len ks [] 0 (by simp)
    have h3 : 1 ≤ 2 ^ (cntK ks) := Nat.one_le_two_pow
    have h4 : 2 ^ (cntK ks + 1) = 2 ^ (cntK ks) * 2 := Nat.pow_succ _ _
    rw [Cn.lea, Cn.cnt, h4]
    simp only [List.length_cons, List.length_nil, Nat.zero_add, Nat.one_mul] at h1 h2
    repeat' split
    all_goals (first | (simp only [List.length_cons, List.length_nil]; omega) | omega)
theorem leaU_len : ∀ (ts : List Cn) (l : List Sc), (leaU ts l).length ≤ l.length * 2 ^ cntK ts
  | [], l => by rw [leaU, cntK]; simp
  | t :: ts, l => by
    have h1 := leaU_len ts (unitL l t.lea)
    have h2 := Cn.lea_len t
    have h3 := unit_len l t.lea
    rw [leaU, cntK, Nat.pow_add, ← Nat.mul_assoc]
    exact Nat.le_trans h1 (Nat.mul_le_mul_right _ (Nat.le_trans h3 (Nat.mul_le_mul_left _ (by omega))))
theorem leaO_len : ∀ (ts : List Cn) (l : List Sc) (m : Nat), l.length < 2 ^ m → (leaO ts l).length < 2 ^ (m + cntK ts)
  | [], l, m, h => by rw [leaO, cntK]; exact h
  | t :: ts, l, m, h => by
    have h2 := Cn.lea_len t
    have h3 := addL_len t.lea l
    have hp := cnt_pos t
    have h4 : (addL l t.lea).length < 2 ^ (m + t.cnt) := by
      have hz : 2 ≤ 2 ^ t.cnt := by have := Nat.pow_le_pow_right (n := 2) (by omega) hp; simpa using this
      rw [Nat.pow_add]
      generalize 2 ^ m = x at *
      generalize 2 ^ t.cnt = z at *
      have h5 : x * 2 ≤ x * z := Nat.mul_le_mul_left x hz
      have h6 : 1 * z ≤ x * z := Nat.mul_le_mul_right z (by omega)
      omega
    have h1 := leaO_len ts (addL l t.lea) (m + t.cnt) h4
    rw [leaO, cntK, ← Nat.add_assoc]
    exact h1
end

/-- What least promises. -/
def LeaQ (l : List Sc) (w : World) (e : Ending) (w' : World) : Prop := ∃ A c, e = .returned (.slice A l.length c) ∧ ML w' w'.heap.size (.slice A l.length c) l ∧ (∀ k, (Value.slice A l.length c).ownBlock = some k → w.heap.size ≤ k) ∧ Below w.heap.size w w'
def LeaG (c : Cn) : Prop := ∀ (v : Value) (w : World), c.ok = true → c.cnt ≤ 16 → KL w w.heap.size v c.kids →
  Calls Tryd.prog 50 #[.agg #[.int .i64 c.op, .int .i64 c.n, v]] w (LeaQ c.lea w)

set_option maxRecDepth 100000 in
set_option maxHeartbeats 1600000 in
theorem lea1_any (n : Int) (ts : List Cn) (v : Value) (w : World) (hk : KL w w.heap.size v ts) :
    Calls Tryd.prog 50 #[.agg #[.int .i64 1, .int .i64 n, v]] w (LeaQ [Sc.zero] w) := by
  obtain ⟨A, cap, rfl, _, _, _⟩ := id hk
  have HA := Lib.hid (alloc2_below w (bx 1 n A ts.length cap) (Sc.row Sc.zero))
  have hml := ML.one (w.alloc (bx 1 n A ts.length cap)) Sc.zero
  rw [alloc_size w] at hml
  have HML := Lib.hid hml
  clear hk hml
  go_enter Tryd.func50, Tryd.ntmps50
  go_wp2_with fail
  go_ret
  exact ⟨some ⟨w.heap.size + 1, 0, none⟩, 1, rfl, HML.out, fun k hk => by have e : w.heap.size + 1 = k := Option.some.inj hk; omega, HA.out⟩


set_option maxRecDepth 100000 in
set_option maxHeartbeats 1600000 in
theorem lea4_any (n : Int) (ts : List Cn) (v : Value) (w : World) (hk : KL w w.heap.size v ts) :
    Calls Tryd.prog 50 #[.agg #[.int .i64 4, .int .i64 n, v]] w (LeaQ [⟨0, 0, n, 0⟩] w) := by
  obtain ⟨A, cap, rfl, _, _, _⟩ := id hk
  have HA := Lib.hid (alloc2_below w (bx 4 n A ts.length cap) (Sc.row ⟨0, 0, n, 0⟩))
  have hml := ML.one (w.alloc (bx 4 n A ts.length cap)) ⟨0, 0, n, 0⟩
  rw [alloc_size w] at hml
  have HML := Lib.hid hml
  clear hk hml
  go_enter Tryd.func50, Tryd.ntmps50
  go_wp2_with fail
  go_ret
  exact ⟨some ⟨w.heap.size + 1, 0, none⟩, 1, rfl, HML.out, fun k hk => by have e : w.heap.size + 1 = k := Option.some.inj hk; omega, HA.out⟩


set_option maxRecDepth 100000 in
set_option maxHeartbeats 1600000 in
theorem lea5_any (n : Int) (ts : List Cn) (v : Value) (w : World) (hk : KL w w.heap.size v ts) :
    Calls Tryd.prog 50 #[.agg #[.int .i64 5, .int .i64 n, v]] w (LeaQ [⟨0, 0, 0, n⟩] w) := by
  obtain ⟨A, cap, rfl, _, _, _⟩ := id hk
  have HA := Lib.hid (alloc2_below w (bx 5 n A ts.length cap) (Sc.row ⟨0, 0, 0, n⟩))
  have hml := ML.one (w.alloc (bx 5 n A ts.length cap)) ⟨0, 0, 0, n⟩
  rw [alloc_size w] at hml
  have HML := Lib.hid hml
  clear hk hml
  go_enter Tryd.func50, Tryd.ntmps50
  go_wp2_with fail
  go_ret
  exact ⟨some ⟨w.heap.size + 1, 0, none⟩, 1, rfl, HML.out, fun k hk => by have e : w.heap.size + 1 = k := Option.some.inj hk; omega, HA.out⟩


set_option maxRecDepth 100000 in
set_option maxHeartbeats 1600000 in
theorem lea2_any (n : Int) (h1 : 1 ≤ n) (h2 : n ≤ 8) (ts : List Cn) (v : Value) (w : World) (hk : KL w w.heap.size v ts) :
    Calls Tryd.prog 50 #[.agg #[.int .i64 2, .int .i64 n, v]] w (LeaQ [⟨2 ^ n.toNat, 0, 0, 0⟩] w) := by
  obtain ⟨A, cap, rfl, _, _, _⟩ := id hk
  have HA := Lib.hid (alloc2_below w (bx 2 n A ts.length cap) (Sc.row ⟨2 ^ n.toNat, 0, 0, 0⟩))
  have hml := ML.one (w.alloc (bx 2 n A ts.length cap)) ⟨2 ^ n.toNat, 0, 0, 0⟩
  rw [alloc_size w] at hml
  have HML := Lib.hid hml
  have h3 : 0 ≤ n := by omega
  have h4 : n ≤ 64 := by omega
  have HW := pow_i64 n h1 (by omega)
  obtain ⟨P, hP⟩ : ∃ P : Int, (2 : Int) ^ n.toNat = P := ⟨_, rfl⟩
  rw [hP] at HW HML HA ⊢
  have HW1 : IntKind.i64.wrap P = P := by have h := HW; rw [Int.one_mul] at h; exact h
  clear hk hml
  go_enter Tryd.func50, Tryd.ntmps50
  go_wp2_with fail
  go_ret
  exact ⟨some ⟨w.heap.size + 1, 0, none⟩, 1, rfl, HML.out, fun k hk => by have e : w.heap.size + 1 = k := Option.some.inj hk; omega, HA.out⟩


set_option maxRecDepth 100000 in
set_option maxHeartbeats 1600000 in
theorem lea3_any (n : Int) (h1 : 1 ≤ n) (h2 : n ≤ 8) (ts : List Cn) (v : Value) (w : World) (hk : KL w w.heap.size v ts) :
    Calls Tryd.prog 50 #[.agg #[.int .i64 3, .int .i64 n, v]] w (LeaQ [⟨0, 2 ^ n.toNat, 0, 0⟩] w) := by
  obtain ⟨A, cap, rfl, _, _, _⟩ := id hk
  have HA := Lib.hid (alloc2_below w (bx 3 n A ts.length cap) (Sc.row ⟨0, 2 ^ n.toNat, 0, 0⟩))
  have hml := ML.one (w.alloc (bx 3 n A ts.length cap)) ⟨0, 2 ^ n.toNat, 0, 0⟩
  rw [alloc_size w] at hml
  have HML := Lib.hid hml
  have h3 : 0 ≤ n := by omega
  have h4 : n ≤ 64 := by omega
  have HW := pow_i64 n h1 (by omega)
  obtain ⟨P, hP⟩ : ∃ P : Int, (2 : Int) ^ n.toNat = P := ⟨_, rfl⟩
  rw [hP] at HW HML HA ⊢
  have HW1 : IntKind.i64.wrap P = P := by have h := HW; rw [Int.one_mul] at h; exact h
  clear hk hml
  go_enter Tryd.func50, Tryd.ntmps50
  go_wp2_with fail
  go_ret
  exact ⟨some ⟨w.heap.size + 1, 0, none⟩, 1, rfl, HML.out, fun k hk => by have e : w.heap.size + 1 = k := Option.some.inj hk; omega, HA.out⟩

end Go.Proofs.YtjkbfogjfgnhiaaDoor
