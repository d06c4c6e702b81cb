/-
  Layer 20: few; a block of the hash value absorbed.
-/
import Derived.Test.YtndkkkkfgihemaaMof
namespace Go.Proofs.Ytndkkkkfgihemaa
set_option linter.unusedVariables false
set_option linter.unusedSimpArgs false
open Go.RowKit

/-- A literal of slices in a block of its own. -/
theorem LL.lit {w : World} (B : Nat) (vs : List Value) (ls : List (List UInt8)) (hlen : vs.length = ls.length) (h1 : ls.length ≤ 1000) (hb : w.heap[B]? = some (.cells vs.toArray 22 (0, 0)))
    (hv : ∀ k, k < ls.length → SL w w.heap.size (vs.getD k (.slice none 0 0)) (ls.getD k [])) : LL w w.heap.size (.slice (some ⟨B, 0, none⟩) ls.length ls.length) ls :=
  ⟨some ⟨B, 0, none⟩, ls.length, vs, rfl, Nat.le_refl _, by unfold maxLen; omega, hlen, fun _ => ⟨B, 0, rfl, blk_lt hb, fun k hk => by
    rw [cell_of_row w B _ _ 22 (0, 0) hb, Nat.zero_add, List.getElem?_toArray, List.getD_eq_getElem?_getD, List.getElem?_eq_getElem (by omega)]
    rfl⟩, hv⟩

set_option maxRecDepth 100000 in
set_option maxHeartbeats 1600000 in
theorem few_any (ls : List (List UInt8)) (v : Value) (w : World) (B : Nat) (h : LL w B v ls) :
    Calls Try.prog 22 #[v] w fun e w' => e = .returned (.bool (ls.all fun l => decide (l.length ≤ 1000))) ∧ ∃ n, w' = w.drewN n := by
  obtain ⟨A, c, vs, rfl, h1, h2, h3, h4, h5⟩ := h
  unfold maxLen at h2
  have HT : Hid (∀ k, k ≤ ls.length → (∀ j, j < k → (ls.getD j []).length ≤ 1000) → k = ls.length → (ls.all fun l => decide (l.length ≤ 1000)) = true) := fun k _ hj hk => by
    rw [List.all_eq_true]
    intro l hl
    obtain ⟨j, hjl, rfl⟩ := List.mem_iff_getElem.1 hl
    have := hj j (by omega)
    rw [List.getD_eq_getElem?_getD, List.getElem?_eq_getElem hjl] at this
    exact decide_eq_true this
  have HF : Hid (∀ k, k < ls.length → 1000 < (ls.getD k []).length → (ls.all fun l => decide (l.length ≤ 1000)) = false) := fun k hk hl => by
    rw [Bool.eq_false_iff]
    intro ht
    rw [List.all_eq_true] at ht
    have := ht (ls.getD k []) (by rw [List.getD_eq_getElem?_getD, List.getElem?_eq_getElem hk]; exact List.getElem_mem hk)
    have := of_decide_eq_true this
    omega
  generalize (ls.all fun l => decide (l.length ≤ 1000)) = r at *
  go_enter Try.func22, Try.ntmps22
  go_wp2_with fail
  go_loopw [3] (fun i wr => ∃ k : Nat, k ≤ ls.length ∧ i = .int .i64 k ∧ Hid (∀ j, j < k → (ls.getD j []).length ≤ 1000) ∧ ∃ n, wr = w.drewN n) (fun i _ => ls.length - (intOf i).toNat)
  case atStart => exact ⟨0, Nat.zero_le _, rfl, fun j hj => absurd hj (by omega), 0, rfl⟩
  case round =>
    obtain ⟨k, hk, rfl, hall, n, rfl⟩ := hrel
    by_cases hlt : k < ls.length
    · obtain ⟨b, o, rfl, hb, hc⟩ := h4.out (by omega)
      have hv := h5.out k hlt
      have g1 := hc k hlt
      generalize hvv : vs.getD k (.slice none 0 0) = vk at *
      have HV := Lib.hid hvv
      clear hvv
      obtain ⟨A5, c5, rfl, h51, h52, h53⟩ := hv
      have HC := Lib.hid hc
      clear hc h53
      generalize hlk : (ls.getD k []).length = lk at *
      have HLK := Lib.hid hlk
      clear hlk
      by_cases hbig : 1000 < lk
      · have HR := Lib.hid (HF.out k hlt (by rw [HLK.out]; exact hbig))
        go_wp2
        go_ret
        exact ⟨ret_bool HR.out.symm, n, rfl⟩
      · have HSM : Hid (∀ j, j < k + 1 → (ls.getD j []).length ≤ 1000) := fun j hj => by
          by_cases e : j = k
          · rw [e, HLK.out]; omega
          · exact hall.out j (by omega)
        go_wp2
        go_roundw
        case rel => exact ⟨k + 1, by omega, by go_num, HSM, n, rfl⟩
        case measure => simp [intOf]; omega
    · have hkl : k = ls.length := by omega
      have HR := Lib.hid (HT.out k hk hall.out hkl)
      subst hkl
      go_wp2
      go_ret
      exact ⟨ret_bool HR.out.symm, n, rfl⟩

/-- The bytes with all bits inverted. -/
def invL (x : List UInt8) : List UInt8 := x.map fun b => ~~~b
theorem inv_step (x : List UInt8) (k : Nat) (h : k < x.length) : invL (x.take (k + 1)) = invL (x.take k) ++ [~~~(x.getD k 0)] := by
  rw [take_snoc x k h]
  simp [invL]
/-- One block absorbed. -/
def hashA (h x : List UInt8) : List UInt8 := xorL (encB h x ++ encB h (invL x)) h
theorem hashA_len (h x : List UInt8) (hh : h.length = 16) : (hashA h x).length = 16 := by
  rw [hashA, xorL_length _ _ (by rw [List.length_append, encB_length, encB_length, hh]), List.length_append, encB_length, encB_length]
set_option maxRecDepth 100000 in
theorem not_nat : ∀ n : Fin 256, 255 ^^^ n.val = 255 - n.val := by decide
theorem inv_walk (y : UInt8) : bits BinOp.xor IntKind.u8 (if IntKind.u8.signed = true then -1 else IntKind.u8.max) (y.toNat : Int) = ((~~~y).toNat : Int) := by
  have h := u8_lt y
  show bits BinOp.xor IntKind.u8 ((255 : Nat) : Int) (y.toNat : Int) = _
  rw [u8_xor_nat 255 y.toNat (by omega) h, not_nat ⟨y.toNat, h⟩, UInt8.toNat_not]
  rfl
theorem invL_len (x : List UInt8) : (invL x).length = x.length := by simp [invL]
set_option maxRecDepth 100000 in
set_option maxHeartbeats 1600000 in
theorem pabs_any (h x : List UInt8) (v u : Value) (w : World) (hh : SL w w.heap.size v h) (hx : SL w w.heap.size u x) (h1 : h.length = 16) (h2 : x.length = 8) :
    Calls Try.prog 56 #[v, u] w fun e w' => ∃ v', e = .returned v' ∧ SL w' w'.heap.size v' (hashA h x) ∧ Below w.heap.size w w' := by
  unfold hashA
  have hh0 := hh
  have hx0 := hx
  obtain ⟨A1, c1, rfl, h11, h12, h13⟩ := hh
  obtain ⟨A2, c2, rfl, h21, h22, h23⟩ := hx
  rw [h1, h2]
  have HXL := Lib.hid h2
  obtain ⟨b2, o2, rfl, hb2, hc2⟩ := h23 (by omega)
  have HC2 := Lib.hid (fun k (hk : k < 8) => hc2 k (by omega))
  rw [h2] at h21
  unfold maxLen at h22
  have HI := Lib.hid (fun k (hk : k < 8) => inv_step x k (by omega))
  clear hc2 h23
  obtain ⟨res, hres⟩ : ∃ res, res = xorL (encB h x ++ encB h (invL x)) h := ⟨_, rfl⟩
  rw [← hres]
  have HRES := Lib.hid hres
  clear hres
  go_enter Try.func56, Try.ntmps56
  go_wp2_with (at_make; refine wpList_mk (by rfl) _ _ (by rfl) .i64 .i64 _ _ 8 (by rfl) (by rfl) (by rfl) (by rfl) (by omega) ?_; intro w1 hown1 hb1)
  go_loopw [18] (fun i wr => ∃ k : Nat, k ≤ 8 ∧ i = .int .i64 k ∧ OB wr w.heap.size (.slice (some ⟨w.heap.size, 0, none⟩) 8 8) (invL (x.take k) ++ List.replicate (8 - k) 0) ∧ Below w.heap.size w wr) (fun i _ => 8 - (intOf i).toNat)
  case atStart => exact ⟨0, by omega, rfl, by simpa [invL] using hown1, hb1⟩
  case round =>
    obtain ⟨k, hk, rfl, hown, hbel⟩ := hrel
    by_cases hlt : k < 8
    · have g1 := (hbel.cell (p := ⟨b2, o2 + k, none⟩) hb2).trans (HC2.out k hlt)
      have g3 := hown.cellAt k (by simp [invL]; omega)
      have g4 := hown.frozenAt k
      have HU := Lib.hid (inv_walk (x.getD k 0))
      have hx8 := u8_lt (x.getD k 0)
      have n2 : ¬ b2 = w.heap.size := by omega
      have HIK := Lib.hid (HI.out k hlt)
      generalize x.getD k 0 = y at *
      go_wp2
      go_roundw
      case rel =>
        refine ⟨k + 1, by omega, by go_num, ?_, hbel.setCell (p := ⟨w.heap.size, k, none⟩) (Nat.le_refl _) _⟩
        have hl : (invL (x.take k)).length = k := by rw [invL_len, List.length_take]; have := HXL.out; omega
        have e := set_pad (invL (x.take k)) (8 - k) (~~~y) (by omega)
        rw [hl] at e
        rw [HIK.out, show 8 - (k + 1) = 8 - k - 1 by omega, ← e]
        exact hown.stored k _ _ HU.out
      case measure => simp [intOf]; omega
    · have hk8 : k = 8 := by omega
      subst hk8
      have HOW := Lib.hid hown.sl
      have HOW2 : Hid (SL wr wr.heap.size (.slice (some ⟨w.heap.size, 0, none⟩) 8 8) (invL x)) := by
        show SL _ _ _ _
        have := HOW.out
        rw [List.take_of_length_le (by have := HXL.out; omega)] at this
        simpa using this
      have E1 := Lib.hid (penc_ok h x _ _ wr (hh0.on hbel) (hx0.on hbel) h1 h2)
      have E2 := Lib.hid (fun W (hb : Below wr.heap.size wr W) => penc_ok h (invL x) _ _ W ((hh0.on hbel).on hb) (HOW2.out.on hb) h1 (by rw [invL_len]; exact h2))
      have EX := Lib.hid (fun W v1 (hb : Below w.heap.size w W) (hv : SL W W.heap.size v1 (encB h x ++ encB h (invL x))) => pxor_any (encB h x ++ encB h (invL x)) h v1 _ W hv (hh0.on hb) (by rw [List.length_append, encB_length, encB_length, h1]) (by rw [List.length_append, encB_length, encB_length]; omega))
      have L1 := Lib.hid (encB_length h x)
      have L2 := Lib.hid (encB_length h (invL x))
      generalize encB h x = r1 at *
      generalize encB h (invL x) = r2 at *
      clear hown HOW
      rw [h1] at E1 E2 EX
      rw [h2] at E1
      clear h1 h2 hh0 hx0
      go_wp2_with fail
      refine E1.out.mono ?_
      rintro e w2 ⟨v2, rfl, hv2, hb2'⟩
      go_wp2_with fail
      refine (E2.out _ hb2').mono ?_
      rintro e w3 ⟨v3, rfl, hv3, hb3⟩
      obtain ⟨A6, c6, rfl⟩ := hv2.value
      obtain ⟨A7, c7, rfl⟩ := hv3.value
      have HV2 := Lib.hid hv2
      have HV3 := Lib.hid hv3
      rw [L1.out, L2.out]
      have bb := hb2'.trans (hb3.mono hb2'.size)
      have b3 := hbel.trans (bb.mono hbel.size)
      have HJ : Hid (∀ o, o = Obj.cells #[.slice A6 8 c6, .slice A7 8 c7] 22 → Calls Try.prog 51 #[.slice (some ⟨w3.heap.size, 0, none⟩) 2 2] (w3.alloc o) fun e w' => ∃ v', e = .returned v' ∧ SL w' w'.heap.size v' (r1 ++ r2) ∧ Below w3.heap.size w3 w') := fun o ho => by
        subst ho
        have hal := (Below.refl w3.heap.size w3).alloc (Nat.le_refl _) (Obj.cells #[.slice A6 8 c6, .slice A7 8 c7] 22)
        have h6 := ((HV2.out.sl.on hb3).on hal)
        have h7 := (HV3.out.sl.on hal)
        rw [L1.out] at h6
        rw [L2.out] at h7
        have hll : LL (w3.alloc (Obj.cells #[.slice A6 8 c6, .slice A7 8 c7] 22)) (w3.alloc (Obj.cells #[.slice A6 8 c6, .slice A7 8 c7] 22)).heap.size (.slice (some ⟨w3.heap.size, 0, none⟩) 2 2) [r1, r2] :=
          LL.lit w3.heap.size [.slice A6 8 c6, .slice A7 8 c7] [r1, r2] rfl (by simp) (heap_alloc_new w3 _) (fun k hk => by
            have : k = 0 ∨ k = 1 := by simp at hk; omega
            rcases this with rfl | rfl
            · exact h6
            · exact h7)
        refine (pjoin_any [r1, r2] _ _ hll (by simp) (by simp [Lib.lens, L1.out, L2.out])).mono fun e w' ⟨v', e1, e2, e3⟩ => ⟨v', e1, by simpa using e2, hal.trans (e3.mono hal.size)⟩
      clear hv2 hv3
      go_wp2_with fail
      refine (HJ.out _ rfl).mono ?_
      rintro e w4 ⟨v4, rfl, hv4, hb4⟩
      have b4 := b3.trans (hb4.mono b3.size)
      go_wp2_with fail
      refine (EX.out _ _ b4 hv4).mono ?_
      rintro e w5 ⟨v5, rfl, hv5, hb5⟩
      go_wp2
      go_ret
      exact ⟨_, rfl, by rw [HRES.out]; exact hv5, b4.trans (hb5.mono b4.size)⟩
end Go.Proofs.Ytndkkkkfgihemaa
