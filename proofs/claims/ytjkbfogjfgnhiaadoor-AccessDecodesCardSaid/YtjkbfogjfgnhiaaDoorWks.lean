/-
  The walk of works.
-/
import Derived.Test.YtjkbfogjfgnhiaaDoorImp
namespace Go.Proofs.YtjkbfogjfgnhiaaDoor
set_option linter.unusedVariables false
set_option linter.unusedSimpArgs false
open Go.RowKit

def cPin : Cn := .mk 2 1 []
def cKey : Cn := .mk 3 2 []
def cSt : Cn := .mk 4 3 []
def cOr : Cn := .mk 7 0 [cKey, cSt]
def cAnd : Cn := .mk 6 0 [cPin, cOr]
def wb1 : Obj := .cells #[.int .i64 2, .int .i64 1, .slice none 0 0] 24 (0, 0)
def wb2 : Obj := .cells #[.int .i64 3, .int .i64 2, .slice none 0 0] 24 (0, 0)
def wb3 : Obj := .cells #[.int .i64 4, .int .i64 3, .slice none 0 0] 24 (0, 0)
def wb4 : Obj := .cells #[.int .i64 3, .int .i64 2, .slice none 0 0, .int .i64 4, .int .i64 3, .slice none 0 0] 24 (0, 0)
def wb5 (N : Nat) : Obj := .cells #[.int .i64 2, .int .i64 1, .slice none 0 0, .int .i64 7, .int .i64 0, .slice (some ⟨N + 1 + 1 + 1, 0, none⟩) 2 2] 24 (0, 0)
def wb6 (N : Nat) : Obj := .cells #[.int .i64 6, .int .i64 0, .slice (some ⟨N + 1 + 1 + 1 + 1, 0, none⟩) 2 2] 24 (0, 0)
def wb7 (N : Nat) : Obj := .cells #[.int .i64 3, .int .i64 6, .int .i64 0, .slice (some ⟨N + 1 + 1 + 1 + 1, 0, none⟩) 2 2] 53 (0, 0)
def w7 (w : World) : World := ((((((w.alloc wb1).alloc wb2).alloc wb3).alloc wb4).alloc (wb5 w.heap.size)).alloc (wb6 w.heap.size)).alloc (wb7 w.heap.size)
theorem w7_size (w : World) : (w7 w).heap.size = w.heap.size + 7 := by simp [w7]
theorem w7_heap (w : World) : (w7 w).heap = ((((((w.heap.push wb1).push wb2).push wb3).push wb4).push (wb5 w.heap.size)).push (wb6 w.heap.size)).push (wb7 w.heap.size) := rfl
theorem w7_at (w : World) : (w7 w).heap[w.heap.size]? = some wb1 ∧ (w7 w).heap[w.heap.size + 1]? = some wb2 ∧ (w7 w).heap[w.heap.size + 1 + 1]? = some wb3 ∧ (w7 w).heap[w.heap.size + 1 + 1 + 1]? = some wb4 ∧
    (w7 w).heap[w.heap.size + 1 + 1 + 1 + 1]? = some (wb5 w.heap.size) ∧ (w7 w).heap[w.heap.size + 1 + 1 + 1 + 1 + 1]? = some (wb6 w.heap.size) ∧ (w7 w).heap[w.heap.size + 1 + 1 + 1 + 1 + 1 + 1]? = some (wb7 w.heap.size) := by
  rw [w7_heap]
  refine ⟨?_, ?_, ?_, ?_, ?_, ?_, ?_⟩ <;> (simp only [Array.getElem?_push, Array.size_push]; repeat (first | rw [if_pos trivial] | rw [if_pos rfl] | rw [if_neg (by omega)]))
theorem w7_below (w : World) : Below w.heap.size w (w7 w) := by
  unfold w7
  exact ((((((alloc_below w _).alloc (by simp) _).alloc (by simp; omega) _).alloc (by simp; omega) _).alloc (by simp; omega) _).alloc (by simp; omega) _).alloc (by simp; omega) _
theorem w7_kl (w : World) : KL (w7 w) (w7 w).heap.size (.slice (some ⟨w.heap.size + 1 + 1 + 1 + 1, 0, none⟩) 2 2) [cPin, cOr] := by
  obtain ⟨_, _, _, h4, h5, _, _⟩ := w7_at w
  have hs := w7_size w
  have c4 := fun i => cell_of_row _ _ i _ _ _ h4
  have c5 := fun i => cell_of_row _ _ i _ _ _ h5
  refine ⟨_, 2, rfl, Nat.le_refl _, by unfold maxLen; omega, fun _ => ⟨_, 0, rfl, by omega, ?_⟩⟩
  unfold CnsAt CnsAt CnsAt
  refine ⟨CnAt.make ((c5 _).trans rfl) ((c5 _).trans rfl) ⟨_, (c5 _).trans rfl, KL.nil _ _ _ _ (Nat.zero_le _)⟩, CnAt.make ((c5 _).trans rfl) ((c5 _).trans rfl) ⟨_, (c5 _).trans rfl, ?_⟩, trivial⟩
  refine ⟨_, 2, rfl, Nat.le_refl _, by unfold maxLen; omega, fun _ => ⟨_, 0, rfl, by omega, ?_⟩⟩
  show CnsAt _ _ _ _ [cKey, cSt]
  unfold CnsAt CnsAt CnsAt
  exact ⟨CnAt.make ((c4 _).trans rfl) ((c4 _).trans rfl) ⟨_, (c4 _).trans rfl, KL.nil _ _ _ _ (Nat.zero_le _)⟩, CnAt.make ((c4 _).trans rfl) ((c4 _).trans rfl) ⟨_, (c4 _).trans rfl, KL.nil _ _ _ _ (Nat.zero_le _)⟩, trivial⟩
theorem w7_rl (w : World) : RL (w7 w) (w7 w).heap.size (.slice (some ⟨w.heap.size + 1 + 1 + 1 + 1 + 1 + 1, 0, none⟩) 1 1) [⟨3, cAnd⟩] := by
  obtain ⟨_, _, _, _, _, _, h7⟩ := w7_at w
  have hs := w7_size w
  have c7 := fun i => cell_of_row _ _ i _ _ _ h7
  refine ⟨_, 1, rfl, Nat.le_refl _, by unfold maxLen; omega, fun _ => ⟨_, 0, rfl, by omega, fun k hk => ?_⟩⟩
  obtain rfl : k = 0 := by simpa using hk
  exact ⟨(c7 _).trans rfl, CnAt.make ((c7 _).trans rfl) ((c7 _).trans rfl) ⟨_, (c7 _).trans rfl, w7_kl w⟩⟩

theorem ex_rE : rE [⟨3, cAnd⟩] = 0 := by decide
theorem ex_rM : rM [⟨3, cAnd⟩] = [128, 11, 3, 6, 2, 2, 1, 7, 2, 3, 2, 4, 3] := by decide
theorem ex_h1 : holdB ⟨2, 4, 0, 0⟩ cAnd = true := by decide
theorem ex_h2 : holdB ⟨2, 0, 4, 0⟩ cAnd = true := by decide
theorem ex_h3 : holdB ⟨1, 0, 0, 0⟩ cAnd = false := by decide
theorem ex_tx : txtM cAnd = [97, 110, 100, 40, 112, 105, 110, 32, 49, 44, 32, 111, 114, 40, 107, 101, 121, 32, 50, 44, 32, 115, 116, 97, 116, 101, 32, 51, 41, 41] := by decide

/-- What the walk reads of its own blocks, in any later world. -/
structure W7 (w W : World) : Prop where
  be : Below (w7 w).heap.size (w7 w) W
  tb : Tb W
  kl : KL W W.heap.size (.slice (some ⟨w.heap.size + 1 + 1 + 1 + 1, 0, none⟩) 2 2) [cPin, cOr]
  b1 : W.heap[w.heap.size]? = some wb1
  b2 : W.heap[w.heap.size + 1]? = some wb2
  b3 : W.heap[w.heap.size + 1 + 1]? = some wb3
  b6 : W.heap[w.heap.size + 1 + 1 + 1 + 1 + 1]? = some (wb6 w.heap.size)
theorem W7.on {w W W' : World} (h : W7 w W) (hb : Below W.heap.size W W') : W7 w W' := by
  have hs := h.be.size
  rw [w7_size] at hs
  exact ⟨h.be.trans (hb.mono h.be.size), h.tb.on hb, h.kl.on hb, (hb.block _ (by omega)).trans h.b1, (hb.block _ (by omega)).trans h.b2, (hb.block _ (by omega)).trans h.b3, (hb.block _ (by omega)).trans h.b6⟩
theorem W7.start {w : World} (hT : Tb w) : W7 w (w7 w) := by
  obtain ⟨h1, h2, h3, h4, h5, h6, h7⟩ := w7_at w
  exact ⟨Below.refl _ _, hT.on (w7_below w), w7_kl w, h1, h2, h3, h6⟩
set_option maxRecDepth 100000 in
set_option maxHeartbeats 6400000 in
theorem works_any (w : World) (hT : Tb w) : Calls Tryd.prog 16 #[] w fun e w' => e = .returned (.bool true) ∧ Below w.heap.size w w' := by
  have hW := W7.start hT
  have h1 := penr_any [⟨3, cAnd⟩] _ (w7 w) (w7_rl w) hW.tb (fun k hk => match k, hk with | 0, _ => by show cAnd.cnt ≤ 400; decide)
  have HE := Lib.hid h1
  have HW := Lib.hid hW
  have HH1 := Lib.hid fun (W : World) (h : W7 w W) => (pholds_any cAnd ⟨2, 4, 0, 0⟩ _ W h.kl h.tb (by decide))
  have HH2 := Lib.hid fun (W : World) (h : W7 w W) => (pholds_any cAnd ⟨2, 0, 4, 0⟩ _ W h.kl h.tb (by decide))
  have HH3 := Lib.hid fun (W : World) (h : W7 w W) => (pholds_any cAnd ⟨1, 0, 0, 0⟩ _ W h.kl h.tb (by decide))
  have HTX := Lib.hid fun (W : World) (h : W7 w W) => (ptxt_any cAnd _ W h.kl h.tb (by decide))
  have HI1 := Lib.hid fun (W : World) (h : W7 w W) => imp_any cSt (.mk 4 2 []) _ (lea_state 3 []) (.slice none 0 0) (.slice none 0 0) W (KL.nil _ _ _ _ (Nat.zero_le _)) (KL.nil _ _ _ _ (Nat.zero_le _)) h.tb (by decide) (by decide)
  have HI2 := Lib.hid fun (W : World) (h : W7 w W) => imp_any cPin cKey _ (lea_pin 1 [] (by omega) (by omega)) (.slice none 0 0) (.slice none 0 0) W (KL.nil _ _ _ _ (Nat.zero_le _)) (KL.nil _ _ _ _ (Nat.zero_le _)) h.tb (by decide) (by decide)
  rw [ex_h1] at HH1
  rw [ex_h2] at HH2
  rw [ex_h3] at HH3
  rw [ex_tx] at HTX
  have HBW := Lib.hid (w7_below w)
  clear h1 hW hT
  go_enter Tryd.func16, Tryd.ntmps16
  go_wp2_with fail
  refine HE.out.mono ?_
  rintro e v1 ⟨bv1, rfl, hsl1, hb1⟩
  rw [ex_rE]
  rw [ex_rM] at hsl1
  have X1 := HW.out.on hb1
  have q0 := cell_of_row _ _ 0 _ _ _ X1.b6
  have q1 := cell_of_row _ _ 1 _ _ _ X1.b6
  have q2 := cell_of_row _ _ 2 _ _ _ X1.b6
  have HX1 := Lib.hid X1
  have HSL1 := Lib.hid hsl1
  obtain ⟨AB, cB, rfl, _, _, _⟩ := id hsl1
  clear X1 hb1 hsl1
  go_wp2_with fail
  refine (HH1.out _ HX1.out).mono ?_
  rintro e v2 ⟨rfl, hb2⟩
  have X2 := HX1.out.on hb2
  have r0 := cell_of_row _ _ 0 _ _ _ X2.b6
  have r1 := cell_of_row _ _ 1 _ _ _ X2.b6
  have r2 := cell_of_row _ _ 2 _ _ _ X2.b6
  have HX2 := Lib.hid X2
  have HSL2 := Lib.hid (HSL1.out.on hb2)
  clear X2 hb2 q0 q1 q2
  go_wp2_with fail
  refine (HH2.out _ HX2.out).mono ?_
  rintro e v3 ⟨rfl, hb3⟩
  have X3 := HX2.out.on hb3
  have s0 := cell_of_row _ _ 0 _ _ _ X3.b6
  have s1 := cell_of_row _ _ 1 _ _ _ X3.b6
  have s2 := cell_of_row _ _ 2 _ _ _ X3.b6
  have HX3 := Lib.hid X3
  have HSL3 := Lib.hid (HSL2.out.on hb3)
  clear X3 hb3 r0 r1 r2
  go_wp2_with fail
  refine (HH3.out _ HX3.out).mono ?_
  rintro e v4 ⟨rfl, hb4⟩
  have X4 := HX3.out.on hb4
  have t0 := cell_of_row _ _ 0 _ _ _ X4.b6
  have t1 := cell_of_row _ _ 1 _ _ _ X4.b6
  have t2 := cell_of_row _ _ 2 _ _ _ X4.b6
  have HX4 := Lib.hid X4
  have cv : Sem.run Tryd.prog (convert 42 9 (.slice AB 13 cB)) v4 = .ok (.string ⟨#[128, 11, 3, 6, 2, 2, 1, 7, 2, 3, 2, 4, 3]⟩) v4 := (HSL3.out.on hb4).convert
  clear X4 hb4 s0 s1 s2
  go_wp2_with fail
  refine (HTX.out _ HX4.out).mono ?_
  rintro e v5 ⟨rfl, hb5⟩
  have X5 := HX4.out.on hb5
  have u0 := cell_of_row _ _ 0 _ _ _ X5.b3
  have u1 := cell_of_row _ _ 1 _ _ _ X5.b3
  have u2 := cell_of_row _ _ 2 _ _ _ X5.b3
  have HX5 := Lib.hid X5
  clear X5 hb5 t0 t1 t2 cv
  go_wp2_with fail
  refine (HI1.out _ HX5.out).mono ?_
  rintro e v6 ⟨rfl, hb6⟩
  have X6 := HX5.out.on hb6
  have p0 := cell_of_row _ _ 0 _ _ _ X6.b1
  have p1 := cell_of_row _ _ 1 _ _ _ X6.b1
  have p2 := cell_of_row _ _ 2 _ _ _ X6.b1
  have n0 := cell_of_row _ _ 0 _ _ _ X6.b2
  have n1 := cell_of_row _ _ 1 _ _ _ X6.b2
  have n2 := cell_of_row _ _ 2 _ _ _ X6.b2
  have HX6 := Lib.hid X6
  have HI1E : Hid ((!([⟨0, 0, 3, 0⟩] : List Sc).any fun s => !(Cn.mk 4 2 []).sat s) = true) := by show _ = _; decide
  rw [HI1E.out]
  clear X6 hb6 u0 u1 u2
  go_wp2_with fail
  refine (HI2.out _ HX6.out).mono ?_
  rintro e v7 ⟨rfl, hb7⟩
  have X7 := HX6.out.on hb7
  have HX7 := Lib.hid X7
  have HI2E : Hid ((!([⟨2 ^ (1 : Int).toNat, 0, 0, 0⟩] : List Sc).any fun s => !cKey.sat s) = false) := by show _ = _; decide
  rw [HI2E.out]
  clear X7 hb7 p0 p1 p2 n0 n1 n2
  go_wp2_with fail
  go_ret
  exact ⟨rfl, HBW.out.trans (HX7.out.be.mono HBW.out.size)⟩
end Go.Proofs.YtjkbfogjfgnhiaaDoor
