/-
  The walk of Image.
-/
import Derived.Test.YtcojoohbhkhlnaaCeh
import Derived.Test.YtcojoohbhkhlnaaCin
namespace Go.Proofs.Ytcojoohbhkhlnaa
set_option linter.unusedVariables false
set_option linter.unusedSimpArgs false
open Go.RowKit

/-- make([]uint32, n). -/
theorem wpList_mkW {ops : Array Oper} {rest : List Oper} {o : Oper} {a : Act} {w : World} {Q : Exit → Act → World → Prop} (hgd : o.guard = none) (l c : Operand) (ho : o.op = Op.makeSlice 26 l c)
    (kl kc : IntKind) (L C : Int) (n : Nat) (hl : a.eval l = .int kl L) (hc : a.eval c = .int kc C) (hL : L = (n : Int)) (hC : C = (n : Int)) (hn : n ≤ 100000000)
    (h : ∀ w', OW w' w.heap.size (.slice (some ⟨w.heap.size, 0, none⟩) n n) (List.replicate n 0) → Below w.heap.size w w' → wpList Try.prog ops Q rest (a.put o.dst (.slice (some ⟨w.heap.size, 0, none⟩) n n)) w') : wpList Try.prog ops Q (o :: rest) a w := by
  obtain ⟨i0, hi0, hz0, hz1, hz2⟩ := info_parts info35
  refine wpList_make_full w hgd l c 26 ho w.heap.size 35 i0 (.int .u32 0) 1 Try.underlying26 hi0 hz0 hz1 kl kc L C n hl hc hL hC (by rw [hz2]; omega) (by simp only [maxLen]; omega) (Nat.le_refl _) fun w' h1 h2 => h w' ?_ ?_
  · unfold OW
    rw [List.length_replicate]
    have e : (madeCells (Value.int .u32 0).cells (n * 1)).toList = (List.replicate n (0 : Nat)).map wv := by
      show (madeCells #[Value.int .u32 0] (n * 1)).toList = _
      rw [toList_madeCells_one, Nat.mul_one, List.map_replicate]
      rfl
    rw [← e]
    exact h1
  · exact (Below.refl _ _).grown h2 (Nat.le_refl _) (fun k hk => by cases hk)

/-- The first k words, the rest still 0. -/
def imgK (ws : List Nat) (k : Nat) : List Nat := (List.range ws.length).map fun i => if i < k then ws.getD i 0 else 0
theorem imgK_len (ws : List Nat) (k : Nat) : (imgK ws k).length = ws.length := by simp [imgK]
theorem imgK_zero (ws : List Nat) : imgK ws 0 = List.replicate ws.length 0 := by
  apply List.ext_getElem
  · simp [imgK]
  · intro i h1 h2; simp [imgK]
theorem imgK_all (ws : List Nat) : imgK ws ws.length = ws := by
  apply List.ext_getElem
  · simp [imgK]
  · intro i h1 h2
    have : i < ws.length := h2
    simp [imgK, this]
theorem imgK_set (ws : List Nat) (k : Nat) (hk : k < ws.length) : (imgK ws k).set k (ws.getD k 0) = imgK ws (k + 1) := by
  apply List.ext_getElem
  · simp [imgK]
  · intro i h1 h2
    simp only [imgK, List.getElem_set, List.getElem_map, List.getElem_range]
    by_cases e : k = i
    · subst e; simp
    · rw [if_neg e]
      by_cases h : i < k
      · rw [if_pos h, if_pos (by omega)]
      · rw [if_neg h, if_neg (by omega)]

set_option maxHeartbeats 800000 in
theorem image_any {w : World} {b g lf : Nat} {s : St} (h : MA w b g s lf) :
    Calls Try.prog 14 #[.pointer (some ⟨b, 0, none⟩)] w fun e w' => ∃ g', e = .returned (.slice (some ⟨g', 0, none⟩) s.ws.length s.ws.length) ∧ OW w' w.heap.size (.slice (some ⟨g', 0, none⟩) s.ws.length s.ws.length) s.ws ∧ Below w.heap.size w w' := by
  have HM := Lib.hid (made_any h)
  have c0 := cell_of_row _ _ 0 _ _ _ h.row
  have hv := h.val
  have n2 := h.n2
  have n1 := h.n1
  have hb := h.ltb
  have hg := h.ltg
  clear h
  unfold mrow at c0
  have HA := Lib.hid (imgK_all s.ws)
  have HZ := Lib.hid (imgK_zero s.ws)
  have HS := Lib.hid (imgK_set s.ws)
  have HL := Lib.hid (imgK_len s.ws)
  generalize s.ws = ws at *
  have HV := Lib.hid hv
  clear hv
  obtain ⟨n, hn⟩ : ∃ n, ws.length = n := ⟨_, rfl⟩
  rw [hn] at n1 n2 c0 HA HZ HS HL HV ⊢
  clear hn
  go_enter Try.func14, Try.ntmps14
  go_wp2_with (first
    | (go_at_call 31; refine HM.out.mono ?_; rintro e w' ⟨rfl, e⟩; have e := e.symm; subst e)
    | (refine wpList_mkW rfl (.tmp 12) (.tmp 12) rfl .i64 .i64 _ _ n rfl rfl rfl rfl (by omega) ?_; intro w2 hown hbel; have d0 := (hbel.cell (p := ⟨b, 0, none⟩) hb).trans c0))
  rw [← HZ.out] at hown
  go_loopw [19] (fun i wr => ∃ k : Nat, k ≤ n ∧ i = .int .i64 k ∧ OW wr w.heap.size (.slice (some ⟨w.heap.size, 0, none⟩) n n) (imgK ws k) ∧ Below w.heap.size w wr) (fun i _ => n - (intOf i).toNat)
  case atStart => exact ⟨0, by omega, rfl, hown, hbel⟩
  case round =>
    obtain ⟨k, hk, rfl, hown, hbel⟩ := hrel
    by_cases h3 : k < n
    · have e0 := (hbel.cell (p := ⟨b, 0, none⟩) hb).trans c0
      have e1 := (hbel.cell (p := ⟨g, k * 2, none⟩) hg).trans (HV.out k h3)
      have e2 := hown.cellAt k (by rw [HL.out]; exact h3)
      have e3 := hown.frozenAt k
      have HO := Lib.hid hown
      have HB := Lib.hid hbel
      have HSK := Lib.hid (HS.out k h3)
      clear hown hbel d0 c0
      generalize ws.getD k 0 = x at *
      generalize (imgK ws k).getD k 0 = y at *
      go_wp2
      go_roundw
      case rel => exact ⟨k + 1, by omega, by go_num, by rw [← HSK.out]; exact HO.out.stored k x _ rfl, HB.out.setCell (p := ⟨w.heap.size, k, none⟩) (Nat.le_refl _) _⟩
      case measure => simp [intOf]; omega
    · obtain rfl : k = n := by omega
      rw [HA.out] at hown
      clear d0
      go_wp2
      go_ret
      exact ⟨_, rfl, hown, hbel⟩
end Go.Proofs.Ytcojoohbhkhlnaa
