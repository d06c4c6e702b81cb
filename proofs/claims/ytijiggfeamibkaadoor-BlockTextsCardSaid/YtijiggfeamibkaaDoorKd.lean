
/-
  The walks of the kinds of blocks: kindOf, inRange, checkInf, control.
-/
import Derived.Test.YtijiggfeamibkaaDoorBlr
import Derived.Deep.RegionHeld3
import Derived.RegionTactic
import Derived.ChangeAlike
namespace Go.Proofs.YtijiggfeamibkaaDoor
set_option linter.unusedVariables false
set_option linter.unusedSimpArgs false
open Go.RowKit

def Kd.val : Kd → Value
  | .inf s m => .iface 46 (.agg #[.int .i64 s, .bool m])
  | .rdy s c => .iface 48 (.agg #[.int .i64 s, .int .i64 c])
  | .sup c a => .iface 50 (.agg #[.int .i64 c, .bool a])

theorem pkind_inf (b : Bk) (v : Value) (w : World) (h : b.kind = 0) :
    Calls Tryd.prog 9 #[b.val v] w fun e w' => e = .returned (.tuple #[(Kd.inf b.seq b.more).val, .bool true]) ∧ Below w.heap.size w w' := by
  obtain ⟨nad, kind, seq, more, code, ans, inf⟩ := b
  obtain rfl : kind = 0 := h
  simp only [Bk.val, Kd.val]
  go_enter Tryd.func9, Tryd.ntmps9
  go_wp2
  go_ret2
  exact ⟨rfl, alloc_below _ _⟩
theorem pkind_rdy (b : Bk) (v : Value) (w : World) (h : b.kind = 1) :
    Calls Tryd.prog 9 #[b.val v] w fun e w' => e = .returned (.tuple #[(Kd.rdy b.seq b.code).val, .bool true]) ∧ Below w.heap.size w w' := by
  obtain ⟨nad, kind, seq, more, code, ans, inf⟩ := b
  obtain rfl : kind = 1 := h
  simp only [Bk.val, Kd.val]
  go_enter Tryd.func9, Tryd.ntmps9
  go_wp2
  go_ret2
  exact ⟨rfl, alloc_below _ _⟩
theorem pkind_sup (b : Bk) (v : Value) (w : World) (h : b.kind = 2) :
    Calls Tryd.prog 9 #[b.val v] w fun e w' => e = .returned (.tuple #[(Kd.sup b.code b.ans).val, .bool true]) ∧ Below w.heap.size w w' := by
  obtain ⟨nad, kind, seq, more, code, ans, inf⟩ := b
  obtain rfl : kind = 2 := h
  simp only [Bk.val, Kd.val]
  go_enter Tryd.func9, Tryd.ntmps9
  go_wp2
  go_ret2
  exact ⟨rfl, alloc_below _ _⟩
theorem pkind_no (b : Bk) (v : Value) (w : World) (h0 : b.kind ≠ 0) (h1 : b.kind ≠ 1) (h2 : b.kind ≠ 2) :
    Calls Tryd.prog 9 #[b.val v] w fun e w' => e = .returned (.tuple #[.nilIface, .bool false]) ∧ Below w.heap.size w w' := by
  obtain ⟨nad, kind, seq, more, code, ans, inf⟩ := b
  have b0 : (kind == 0) = false := beq_eq_false_iff_ne.2 h0
  have b1 : (kind == 1) = false := beq_eq_false_iff_ne.2 h1
  have b2 : (kind == 2) = false := beq_eq_false_iff_ne.2 h2
  clear h0 h1 h2
  simp only [Bk.val]
  go_enter Tryd.func9, Tryd.ntmps9
  go_wp2
  go_ret2
  exact ⟨rfl, alloc_below _ _⟩

theorem pbit_any (n : Int) (w : World) : Calls Tryd.prog 55 #[.int .i64 n] w fun e w' => e = .returned (.bool (isBit n)) ∧ w = w' := by
  have HE : Hid (isBit n = (n == 0 || n == 1)) := rfl
  cases h0 : (n == 0)
  · cases h1 : (n == 1)
    · rw [h0, h1] at HE
      go_enter Tryd.func55, Tryd.ntmps55
      go_wp2
      go_ret
      exact ⟨by rw [HE.out]; rfl, rfl⟩
    · rw [h0, h1] at HE
      go_enter Tryd.func55, Tryd.ntmps55
      go_wp2
      go_ret
      exact ⟨by rw [HE.out]; rfl, rfl⟩
  · rw [h0] at HE
    go_enter Tryd.func55, Tryd.ntmps55
    go_wp2
    go_ret
    exact ⟨by rw [HE.out]; rfl, rfl⟩

theorem prng_inf (s : Int) (m : Bool) (w : World) : Calls Tryd.prog 52 #[.agg #[.int .i64 s, .bool m]] w fun e w' => e = .returned (.bool (Kd.inf s m).rng) ∧ Below w.heap.size w w' := by
  have HE : Hid ((Kd.inf s m).rng = isBit s) := rfl
  go_enter Tryd.func52, Tryd.ntmps52
  go_wp2_with fail
  refine (pbit_any _ _).mono ?_
  rintro e w1 ⟨rfl, rfl⟩
  go_wp2_with fail
  go_ret
  exact ⟨by rw [HE.out]; rfl, alloc_below _ _⟩

theorem rn_0 (w : World) (s : Int) : Calls Tryd.prog 84 #[.agg #[.int .i64 s, .int .i64 0]] w fun e w' => e = .returned (.string ⟨#[102, 105, 110, 101]⟩) ∧ Below w.heap.size w w' := by
  go_enter Tryd.func84, Tryd.ntmps84
  go_wp2
  go_ret
  exact ⟨rfl, alloc_below _ _⟩
theorem rn_1 (w : World) (s : Int) : Calls Tryd.prog 84 #[.agg #[.int .i64 s, .int .i64 1]] w fun e w' => e = .returned (.string ⟨#[115, 117, 109]⟩) ∧ Below w.heap.size w w' := by
  go_enter Tryd.func84, Tryd.ntmps84
  go_wp2
  go_ret
  exact ⟨rfl, alloc_below _ _⟩
theorem rn_2 (w : World) (s : Int) : Calls Tryd.prog 84 #[.agg #[.int .i64 s, .int .i64 2]] w fun e w' => e = .returned (.string ⟨#[111, 116, 104, 101, 114]⟩) ∧ Below w.heap.size w w' := by
  go_enter Tryd.func84, Tryd.ntmps84
  go_wp2
  go_ret
  exact ⟨rfl, alloc_below _ _⟩
theorem sn_0 (w : World) (a : Bool) : Calls Tryd.prog 90 #[.agg #[.int .i64 0, .bool a]] w fun e w' => e = .returned (.string ⟨#[114, 101, 115, 121, 110, 99]⟩) ∧ Below w.heap.size w w' := by
  go_enter Tryd.func90, Tryd.ntmps90
  go_wp2
  go_ret
  exact ⟨rfl, alloc_below _ _⟩
theorem sn_1 (w : World) (a : Bool) : Calls Tryd.prog 90 #[.agg #[.int .i64 1, .bool a]] w fun e w' => e = .returned (.string ⟨#[105, 102, 115]⟩) ∧ Below w.heap.size w w' := by
  go_enter Tryd.func90, Tryd.ntmps90
  go_wp2
  go_ret
  exact ⟨rfl, alloc_below _ _⟩
theorem sn_2 (w : World) (a : Bool) : Calls Tryd.prog 90 #[.agg #[.int .i64 2, .bool a]] w fun e w' => e = .returned (.string ⟨#[97, 98, 111, 114, 116]⟩) ∧ Below w.heap.size w w' := by
  go_enter Tryd.func90, Tryd.ntmps90
  go_wp2
  go_ret
  exact ⟨rfl, alloc_below _ _⟩
theorem sn_3 (w : World) (a : Bool) : Calls Tryd.prog 90 #[.agg #[.int .i64 3, .bool a]] w fun e w' => e = .returned (.string ⟨#[119, 116, 120]⟩) ∧ Below w.heap.size w w' := by
  go_enter Tryd.func90, Tryd.ntmps90
  go_wp2
  go_ret
  exact ⟨rfl, alloc_below _ _⟩
theorem rn_no (w : World) (s c : Int) (h : isRc c = false) : Calls Tryd.prog 84 #[.agg #[.int .i64 s, .int .i64 c]] w fun e w' => e = .returned (.string ⟨#[]⟩) ∧ Below w.heap.size w w' := by
  simp only [isRc, Bool.or_eq_false_iff] at h
  obtain ⟨⟨h0, h1⟩, h2⟩ := h
  go_enter Tryd.func84, Tryd.ntmps84
  go_wp2
  go_ret
  exact ⟨rfl, alloc_below _ _⟩
theorem sn_no (w : World) (c : Int) (a : Bool) (h : isSc c = false) : Calls Tryd.prog 90 #[.agg #[.int .i64 c, .bool a]] w fun e w' => e = .returned (.string ⟨#[]⟩) ∧ Below w.heap.size w w' := by
  simp only [isSc, Bool.or_eq_false_iff] at h
  obtain ⟨⟨⟨h0, h1⟩, h2⟩, h3⟩ := h
  go_enter Tryd.func90, Tryd.ntmps90
  go_wp2
  go_ret
  exact ⟨rfl, alloc_below _ _⟩
theorem below_alloc2 {w w1 : World} {o : Obj} (h : Below (w.alloc o).heap.size (w.alloc o) w1) : Below w.heap.size w w1 := (alloc_below w o).trans (h.mono (by rw [alloc_size]; omega))
theorem prng_rdy (s c : Int) (w : World) : Calls Tryd.prog 81 #[.agg #[.int .i64 s, .int .i64 c]] w fun e w' => e = .returned (.bool (Kd.rdy s c).rng) ∧ Below w.heap.size w w' := by
  have HE : Hid ((Kd.rdy s c).rng = (isBit s && isRc c)) := rfl
  have HB := Lib.hid (fun (W : World) => pbit_any s W)
  cases hb : isBit s
  · rw [hb] at HE HB
    go_enter Tryd.func81, Tryd.ntmps81
    go_wp2_with fail
    refine (HB.out _).mono ?_
    rintro e w1 ⟨rfl, rfl⟩
    go_wp2_with fail
    go_ret
    exact ⟨by rw [HE.out]; rfl, alloc_below _ _⟩
  cases hc : isRc c
  · rw [hb, hc] at HE
    rw [hb] at HB
    have HN := Lib.hid (fun (W : World) => rn_no W s c hc)
    clear hb hc
    go_enter Tryd.func81, Tryd.ntmps81
    go_wp2_with fail
    refine (HB.out _).mono ?_
    rintro e w1 ⟨rfl, rfl⟩
    go_wp2_with fail
    refine (HN.out _).mono ?_
    rintro e w1 ⟨rfl, hb1⟩
    go_wp2_with fail
    go_ret
    exact ⟨by rw [HE.out]; rfl, below_alloc2 hb1⟩
  rw [hb, hc] at HE
  rw [hb] at HB
  rcases rc_cases hc with rfl | rfl | rfl
  · have HN := Lib.hid (fun (W : World) => rn_0 W s)
    clear hb hc
    go_enter Tryd.func81, Tryd.ntmps81
    go_wp2_with fail
    refine (HB.out _).mono ?_
    rintro e w1 ⟨rfl, rfl⟩
    go_wp2_with fail
    refine (HN.out _).mono ?_
    rintro e w1 ⟨rfl, hb1⟩
    go_wp2_with fail
    go_ret
    exact ⟨by rw [HE.out]; rfl, below_alloc2 hb1⟩
  · have HN := Lib.hid (fun (W : World) => rn_1 W s)
    clear hb hc
    go_enter Tryd.func81, Tryd.ntmps81
    go_wp2_with fail
    refine (HB.out _).mono ?_
    rintro e w1 ⟨rfl, rfl⟩
    go_wp2_with fail
    refine (HN.out _).mono ?_
    rintro e w1 ⟨rfl, hb1⟩
    go_wp2_with fail
    go_ret
    exact ⟨by rw [HE.out]; rfl, below_alloc2 hb1⟩
  · have HN := Lib.hid (fun (W : World) => rn_2 W s)
    clear hb hc
    go_enter Tryd.func81, Tryd.ntmps81
    go_wp2_with fail
    refine (HB.out _).mono ?_
    rintro e w1 ⟨rfl, rfl⟩
    go_wp2_with fail
    refine (HN.out _).mono ?_
    rintro e w1 ⟨rfl, hb1⟩
    go_wp2_with fail
    go_ret
    exact ⟨by rw [HE.out]; rfl, below_alloc2 hb1⟩
theorem prng_sup (c : Int) (a : Bool) (w : World) : Calls Tryd.prog 87 #[.agg #[.int .i64 c, .bool a]] w fun e w' => e = .returned (.bool (Kd.sup c a).rng) ∧ Below w.heap.size w w' := by
  have HE : Hid ((Kd.sup c a).rng = isSc c) := rfl
  cases hc : isSc c
  · rw [hc] at HE
    have HN := Lib.hid (fun (W : World) => sn_no W c a hc)
    clear hc
    go_enter Tryd.func87, Tryd.ntmps87
    go_wp2_with fail
    refine (HN.out _).mono ?_
    rintro e w1 ⟨rfl, hb1⟩
    go_wp2_with fail
    go_ret
    exact ⟨by rw [HE.out]; rfl, below_alloc2 hb1⟩
  rw [hc] at HE
  rcases sc_cases hc with rfl | rfl | rfl | rfl
  · have HN := Lib.hid (fun (W : World) => sn_0 W a)
    clear hc
    go_enter Tryd.func87, Tryd.ntmps87
    go_wp2_with fail
    refine (HN.out _).mono ?_
    rintro e w1 ⟨rfl, hb1⟩
    go_wp2_with fail
    go_ret
    exact ⟨by rw [HE.out]; rfl, below_alloc2 hb1⟩
  · have HN := Lib.hid (fun (W : World) => sn_1 W a)
    clear hc
    go_enter Tryd.func87, Tryd.ntmps87
    go_wp2_with fail
    refine (HN.out _).mono ?_
    rintro e w1 ⟨rfl, hb1⟩
    go_wp2_with fail
    go_ret
    exact ⟨by rw [HE.out]; rfl, below_alloc2 hb1⟩
  · have HN := Lib.hid (fun (W : World) => sn_2 W a)
    clear hc
    go_enter Tryd.func87, Tryd.ntmps87
    go_wp2_with fail
    refine (HN.out _).mono ?_
    rintro e w1 ⟨rfl, hb1⟩
    go_wp2_with fail
    go_ret
    exact ⟨by rw [HE.out]; rfl, below_alloc2 hb1⟩
  · have HN := Lib.hid (fun (W : World) => sn_3 W a)
    clear hc
    go_enter Tryd.func87, Tryd.ntmps87
    go_wp2_with fail
    refine (HN.out _).mono ?_
    rintro e w1 ⟨rfl, hb1⟩
    go_wp2_with fail
    go_ret
    exact ⟨by rw [HE.out]; rfl, below_alloc2 hb1⟩

theorem pempty_any (l : List UInt8) (A : Option Addr) (n c : Nat) (w : World) (hn : l.length = n) : Calls Tryd.prog 83 #[.slice A n c] w fun e w' => e = .returned (.int .i64 (emptyE l)) ∧ w = w' := by
  subst hn
  by_cases h : l.length = 0
  · have HE : Hid (emptyE l = 0) := by show _ = _; rw [emptyE, if_pos h]
    have h' : l.length ≤ 0 := by omega
    clear h
    go_enter Tryd.func83, Tryd.ntmps83
    go_wp2
    go_ret
    exact ⟨by rw [HE.out]; rfl, rfl⟩
  · have HE : Hid (emptyE l = 4) := by show _ = _; rw [emptyE, if_neg h]
    have h' : 0 < l.length := by omega
    clear h
    go_enter Tryd.func83, Tryd.ntmps83
    go_wp2
    go_ret
    exact ⟨by rw [HE.out]; rfl, rfl⟩
end Go.Proofs.YtijiggfeamibkaaDoor
