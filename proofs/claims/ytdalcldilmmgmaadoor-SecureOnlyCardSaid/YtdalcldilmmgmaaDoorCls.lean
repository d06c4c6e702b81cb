
/-
  The walks of Class, Byte, Success and validStatus, of the program and of the reference.
-/
import Derived.Test.YtdalcldilmmgmaaDoorCmb
namespace Go.Proofs.YtdalcldilmmgmaaDoor
set_option linter.unusedVariables false
set_option linter.unusedSimpArgs false
open Go.RowKit

theorem ret2_int {j k : IntKind} {a b c d : Int} (h : a = b) (g : c = d) : Ending.returned (.tuple #[.int j a, .int k c]) = .returned (.tuple #[.int j b, .int k d]) := by rw [h, g]


theorem results_cell2 {P : Program} {fn : Func} {p u : Tmp} {ty : TypeId} (h : fn.results = #[.cell p ty, .tmp u]) (tmps : Array Value) (w : World) (g : Nat) (t : TypeId) (cs : Array Value) (fr : Nat × Nat) (d : TypeDesc)
    (hp : tmps.getD p undef = .pointer (some ⟨g, 0, none⟩)) (hg : w.heap[g]? = some (.cells cs t fr))
    (hu : P.underlying ty = some d) (hd : (match d with | .struct _ | .array _ _ => true | _ => false) = true) (hi : (P.info? ty).map (·.size) = some cs.size) :
    (results fn tmps).run P w = .ok (.tuple #[.agg cs, tmps.getD u undef]) w := by
  have hp' : tmps[p]?.getD undef = .pointer (some ⟨g, 0, none⟩) := by simpa using hp
  simp [results, h, hp', asAddr, run_loadVar_row w g t ty cs fr d hg hu hd hi]

/-- What a class byte means. -/
structure Kl where
  ch : Int
  sec : Bool
  chn : Bool
  prp : Bool
def Kl.val (k : Kl) : Value := .agg #[.int .i64 k.ch, .bool k.sec, .bool k.chn, .bool k.prp]
def clsB (n : Int) : Bool := isB n && !(n / 64 % 2 == 1) && !(n / 32 % 2 == 1) && !(n / 8 % 2 == 1)
def clsK (n : Int) : Kl := if clsB n = true then ⟨n % 4, n / 4 % 2 == 1, n / 16 % 2 == 1, n / 128 == 1⟩ else ⟨0, false, false, false⟩

theorem i64_and_nat (a b : Nat) (ha : a < 4294967296) (hb : b < 4294967296) : bits .and .i64 (a : Int) (b : Int) = ((a &&& b : Nat) : Int) := by
  have hx : a &&& b < 2 ^ 32 := Nat.and_lt_two_pow _ (by omega)
  show IntKind.i64.wrap ((BitVec.ofInt 64 (a : Int) &&& BitVec.ofInt 64 (b : Int)).toNat : Int) = _
  rw [BitVec.toNat_and, ofInt_u64 a (by omega), ofInt_u64 b (by omega)]
  exact IntWalk.i64_in _ (by omega)
theorem i64_or_nat (a b : Nat) (ha : a < 4294967296) (hb : b < 4294967296) : bits .or .i64 (a : Int) (b : Int) = ((a ||| b : Nat) : Int) := by
  have hx : a ||| b < 2 ^ 32 := Nat.or_lt_two_pow (by omega) (by omega)
  show IntKind.i64.wrap ((BitVec.ofInt 64 (a : Int) ||| BitVec.ofInt 64 (b : Int)).toNat : Int) = _
  rw [BitVec.toNat_or, ofInt_u64 a (by omega), ofInt_u64 b (by omega)]
  exact IntWalk.i64_in _ (by omega)

def bitsOk (m : Nat) : Bool :=
  ((m &&& 104 == 0) == (!(m / 64 % 2 == 1) && !(m / 32 % 2 == 1) && !(m / 8 % 2 == 1))) && (m &&& 3 == m % 4) && ((m &&& 4 != 0) == (m / 4 % 2 == 1)) && ((m &&& 16 != 0) == (m / 16 % 2 == 1)) && ((m &&& 128 != 0) == (m / 128 == 1))
theorem bits_all : (List.range 256).all bitsOk = true := by decide +kernel
theorem bits_ok (m : Nat) (h : m < 256) : bitsOk m = true := List.all_eq_true.1 bits_all m (List.mem_range.2 h)
theorem clsB_nat (m : Nat) (h : m < 256) : clsB (m : Int) = (m &&& 104 == 0) := by
  have hb := bits_ok m h
  unfold bitsOk at hb
  simp only [Bool.and_eq_true, beq_iff_eq] at hb
  rw [hb.1.1.1.1]
  unfold clsB
  have e : isB (m : Int) = true := isB_of ⟨by omega, by omega⟩
  have e1 : (((m : Int) / 64 % 2 == 1) : Bool) = (m / 64 % 2 == 1) := by rw [Bool.eq_iff_iff]; simp; omega
  have e2 : (((m : Int) / 32 % 2 == 1) : Bool) = (m / 32 % 2 == 1) := by rw [Bool.eq_iff_iff]; simp; omega
  have e3 : (((m : Int) / 8 % 2 == 1) : Bool) = (m / 8 % 2 == 1) := by rw [Bool.eq_iff_iff]; simp; omega
  rw [e, e1, e2, e3]
  simp
theorem clsK_nat (m : Nat) (h : m < 256) (hv : clsB (m : Int) = true) : clsK (m : Int) = ⟨((m &&& 3 : Nat) : Int), m &&& 4 != 0, m &&& 16 != 0, m &&& 128 != 0⟩ := by
  have hb := bits_ok m h
  unfold bitsOk at hb
  simp only [Bool.and_eq_true, beq_iff_eq] at hb
  unfold clsK
  rw [if_pos hv, hb.1.1.1.2, hb.1.1.2, hb.1.2, hb.2]
  have e1 : (((m : Int) / 4 % 2 == 1) : Bool) = (m / 4 % 2 == 1) := by rw [Bool.eq_iff_iff]; simp; omega
  have e2 : (((m : Int) / 16 % 2 == 1) : Bool) = (m / 16 % 2 == 1) := by rw [Bool.eq_iff_iff]; simp; omega
  have e3 : (((m : Int) / 128 == 1) : Bool) = (m / 128 == 1) := by rw [Bool.eq_iff_iff]; simp; omega
  rw [e1, e2, e3]
  simp

theorem row4_set (w : World) (g : Nat) (ty : TypeId) (a b c d x y z u : Value) (hg : w.heap[g]? = some (.cells #[a, b, c, d] ty (0, 0))) :
    ((((w.setCell ⟨g, 0, none⟩ x).setCell ⟨g, 1, none⟩ y).setCell ⟨g, 2, none⟩ z).setCell ⟨g, 3, none⟩ u).heap[g]? = some (.cells #[x, y, z, u] ty (0, 0)) := by
  have h1 := heap_setCell_same w g 0 _ ty x hg
  have h2 := heap_setCell_same _ g 1 _ ty y h1
  have h3 := heap_setCell_same _ g 2 _ ty z h2
  have h4 := heap_setCell_same _ g 3 _ ty u h3
  rw [h4]
  simp

set_option maxRecDepth 100000 in
set_option maxHeartbeats 800000 in
theorem pcls_any (n : Int) (w : World) : Calls Tryd.prog 53 #[.int .i64 n] w fun e w' => e = .returned (.tuple #[(clsK n).val, .bool (clsB n)]) ∧ Below w.heap.size w w' := by
  cases hb : isB n
  · have HV : Hid (clsB n = false) := by show _ = _; rw [clsB, hb]; rfl
    have HK : Hid (clsK n = ⟨0, false, false, false⟩) := by show _ = _; rw [clsK, if_neg (by rw [HV.out]; decide)]
    go_enter Tryd.func53, Tryd.ntmps53
    go_wp2_with (go_at_call 66; refine (pisb_any _ _).mono ?_; rintro e w' ⟨rfl, rfl⟩)
    exact bodyPost_ret (results_cell2 rfl _ _ w.heap.size 77 _ (0, 0) _ rfl (heap_alloc_new w _) Tryd.underlying77 rfl (by kernel_rfl)) rfl ⟨by rw [HV.out, HK.out]; rfl, alloc_below _ _⟩
  · obtain ⟨h0, h1⟩ := isB_yes hb
    obtain ⟨m, rfl⟩ := Int.eq_ofNat_of_zero_le h0
    have hm : m < 256 := by omega
    have a0 : bits .and .i64 (m : Int) 104 = ((m &&& 104 : Nat) : Int) := i64_and_nat m 104 (by omega) (by omega)
    have hcb := clsB_nat m hm
    cases hv : clsB (m : Int)
    · have HV := Lib.hid hv
      have HK : Hid (clsK (m : Int) = ⟨0, false, false, false⟩) := by show _ = _; rw [clsK, if_neg (by rw [HV.out]; decide)]
      have t0 : (((m &&& 104 : Nat) : Int) != 0) = true := by
        rw [hv] at hcb
        rw [bne_iff_ne]
        intro e
        have : (m &&& 104 == 0) = true := by rw [beq_iff_eq]; omega
        rw [this] at hcb
        cases hcb
      clear hcb hv
      go_enter Tryd.func53, Tryd.ntmps53
      go_wp2_with (go_at_call 66; refine (pisb_any _ _).mono ?_; rintro e w' ⟨rfl, rfl⟩)
      exact bodyPost_ret (results_cell2 rfl _ _ w.heap.size 77 _ (0, 0) _ rfl (heap_alloc_new w _) Tryd.underlying77 rfl (by kernel_rfl)) rfl ⟨by rw [HK.out]; rfl, alloc_below _ _⟩
    · have HV := Lib.hid hv
      have HK := Lib.hid (clsK_nat m hm hv)
      have t0 : (((m &&& 104 : Nat) : Int) != 0) = false := by
        rw [hv] at hcb
        rw [bne_eq_false_iff_eq]
        have := beq_iff_eq.1 hcb.symm
        omega
      have a1 : bits .and .i64 (m : Int) 3 = ((m &&& 3 : Nat) : Int) := i64_and_nat m 3 (by omega) (by omega)
      have a2 : bits .and .i64 (m : Int) 4 = ((m &&& 4 : Nat) : Int) := i64_and_nat m 4 (by omega) (by omega)
      have a3 : bits .and .i64 (m : Int) 16 = ((m &&& 16 : Nat) : Int) := i64_and_nat m 16 (by omega) (by omega)
      have a4 : bits .and .i64 (m : Int) 128 = ((m &&& 128 : Nat) : Int) := i64_and_nat m 128 (by omega) (by omega)
      have b2 : (((m &&& 4 : Nat) : Int) != 0) = (m &&& 4 != 0) := by rw [Bool.eq_iff_iff]; simp
      have b3 : (((m &&& 16 : Nat) : Int) != 0) = (m &&& 16 != 0) := by rw [Bool.eq_iff_iff]; simp
      have b4 : (((m &&& 128 : Nat) : Int) != 0) = (m &&& 128 != 0) := by rw [Bool.eq_iff_iff]; simp
      clear hcb hv
      go_enter Tryd.func53, Tryd.ntmps53
      go_wp2_with (go_at_call 66; refine (pisb_any _ _).mono ?_; rintro e w' ⟨rfl, rfl⟩)
      exact bodyPost_ret (results_cell2 rfl _ _ w.heap.size 77 _ (0, 0) _ rfl (heap_alloc_new w _) Tryd.underlying77 rfl (by kernel_rfl)) rfl ⟨by rw [HK.out]; rfl, alloc_below _ _⟩

/-! ### Byte -/
def bytOk (k : Kl) : Bool := decide (0 ≤ k.ch) && decide (k.ch < 4)
def bytN (k : Kl) : Int := if bytOk k = true then k.ch + (if k.sec then 4 else 0) + (if k.chn then 16 else 0) + (if k.prp then 128 else 0) else 0
def bytE (k : Kl) : Int := if bytOk k = true then 0 else 2
theorem or_small (m b : Nat) (hm : m < 128) : ((m < 4 → m ||| 4 = m + 4) ∧ (m < 16 → m ||| 16 = m + 16) ∧ (m ||| 128 = m + 128)) := by
  have : (List.range 128).all (fun m => (!(decide (m < 4)) || (m ||| 4 == m + 4)) && (!(decide (m < 16)) || (m ||| 16 == m + 16)) && (m ||| 128 == m + 128)) = true := by decide +kernel
  have h := List.all_eq_true.1 this m (List.mem_range.2 hm)
  simp at h
  omega
theorem or4 (n : Int) (h0 : 0 ≤ n) (h : n < 4) : bits .or .i64 n 4 = n + 4 := by
  obtain ⟨m, rfl⟩ := Int.eq_ofNat_of_zero_le h0
  have := i64_or_nat m 4 (by omega) (by omega)
  rw [(or_small m 0 (by omega)).1 (by omega)] at this
  exact this
theorem or16 (n : Int) (h0 : 0 ≤ n) (h : n < 16) : bits .or .i64 n 16 = n + 16 := by
  obtain ⟨m, rfl⟩ := Int.eq_ofNat_of_zero_le h0
  have := i64_or_nat m 16 (by omega) (by omega)
  rw [(or_small m 0 (by omega)).2.1 (by omega)] at this
  exact this
theorem or128 (n : Int) (h0 : 0 ≤ n) (h : n < 128) : bits .or .i64 n 128 = n + 128 := by
  obtain ⟨m, rfl⟩ := Int.eq_ofNat_of_zero_le h0
  have := i64_or_nat m 128 (by omega) (by omega)
  rw [(or_small m 0 (by omega)).2.2] at this
  exact this

set_option maxRecDepth 100000 in
set_option maxHeartbeats 800000 in
theorem pbyt_any (k : Kl) (w : World) : Calls Tryd.prog 41 #[k.val] w fun e w' => e = .returned (.tuple #[.int .i64 (bytN k), .int .i64 (bytE k)]) ∧ Below w.heap.size w w' := by
  obtain ⟨ch, sec, chn, prp⟩ := k
  simp only [Kl.val]
  cases hv : bytOk ⟨ch, sec, chn, prp⟩
  · have HV : Hid (bytN ⟨ch, sec, chn, prp⟩ = 0 ∧ bytE ⟨ch, sec, chn, prp⟩ = 2) := ⟨by rw [bytN, if_neg (by rw [hv]; decide)], by rw [bytE, if_neg (by rw [hv]; decide)]⟩
    have hr : ch < 0 ∨ 4 ≤ ch := by simp [bytOk] at hv; omega
    clear hv
    rcases hr with hr | hr
    · go_enter Tryd.func41, Tryd.ntmps41
      go_wp2_with fail
      go_ret2
      exact ⟨by rw [HV.out.1, HV.out.2]; rfl, alloc_below _ _⟩
    · have hr' : ¬ ch < 0 := by omega
      go_enter Tryd.func41, Tryd.ntmps41
      go_wp2_with fail
      go_ret2
      exact ⟨by rw [HV.out.1, HV.out.2]; rfl, alloc_below _ _⟩
  · have HV : Hid (bytN ⟨ch, sec, chn, prp⟩ = ch + (if sec then 4 else 0) + (if chn then 16 else 0) + (if prp then 128 else 0) ∧ bytE ⟨ch, sec, chn, prp⟩ = 0) := ⟨by rw [bytN, if_pos hv], by rw [bytE, if_pos hv]⟩
    have hr : 0 ≤ ch ∧ ch < 4 := by simpa [bytOk] using hv
    obtain ⟨r0, r1⟩ := hr
    clear hv
    have o1 := or4 ch r0 r1
    have o2 := or16 ch r0 (by omega)
    have o3 := or16 (ch + 4) (by omega) (by omega)
    have o4 := or128 ch r0 (by omega)
    have o5 := or128 (ch + 4) (by omega) (by omega)
    have o6 := or128 (ch + 16) (by omega) (by omega)
    have o7 := or128 (ch + 4 + 16) (by omega) (by omega)
    cases sec <;> cases chn <;> cases prp
    all_goals
      go_enter Tryd.func41, Tryd.ntmps41
      go_wp2_with fail
      go_ret2
      refine ⟨?_, alloc_below _ _⟩
      rw [HV.out.1, HV.out.2]
      refine ret2_int ?_ rfl
      first
        | (simp only [if_true, if_false, Bool.false_eq_true]; done)
        | (simp only [if_true, if_false, Bool.false_eq_true]; omega)

end Go.Proofs.YtdalcldilmmgmaaDoor
