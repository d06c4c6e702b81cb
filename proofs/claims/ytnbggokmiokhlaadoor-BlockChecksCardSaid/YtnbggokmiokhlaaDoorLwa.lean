/-
  The walks of the laws BlockChecks, BlockSame, BlockEncodes.
-/
import Derived.Test.YtnbggokmiokhlaaDoorRen
import Derived.Test.YtnbggokmiokhlaaDoorAwk
namespace Go.Proofs.YtnbggokmiokhlaaDoor
set_option linter.unusedVariables false
set_option linter.unusedSimpArgs false
open Go.RowKit

set_option maxRecDepth 100000 in
set_option maxHeartbeats 1600000 in
theorem law_checks (b : Bk) (v : Value) (w : World) (hv : SL w w.heap.size v b.inf) (hT : Tb w) :
    Calls Tryd.prog 12 #[b.val v] w fun e w' => e = .returned (.bool true) ∧ Below w.heap.size w w' := by
  have HV := Lib.hid hv
  have HT := Lib.hid hT
  have HP := Lib.hid (fun (W : World) (hW : Below w.heap.size w W) => pchk_any b _ W (HV.out.on hW))
  have HR := Lib.hid (fun (W : World) (hW : Below w.heap.size w W) => rchk_any b _ W (HV.out.on hW))
  have HA := Lib.hid (fun (W : World) (hW : Below w.heap.size w W) => awake_any W (HT.out.on hW))
  generalize chkB b = S at *
  obtain ⟨A, c, rfl, _, _, _⟩ := hv
  obtain ⟨nad, kind, s, m, code, ans, l⟩ := b
  simp only [Bk.val] at *
  have HROW := Lib.hid (heap_alloc_new w (.cells #[.int .i64 nad, .int .i64 kind, .int .i64 s, .bool m, .int .i64 code, .bool ans, .slice A l.length c] 47))
  have HW := Lib.hid (alloc_below w (.cells #[.int .i64 nad, .int .i64 kind, .int .i64 s, .bool m, .int .i64 code, .bool ans, .slice A l.length c] 47)).drew
  have HSZ : Hid ((w.alloc (.cells #[.int .i64 nad, .int .i64 kind, .int .i64 s, .bool m, .int .i64 code, .bool ans, .slice A l.length c] 47)).heap.size = w.heap.size + 1) := alloc_size _ _
  clear hT
  go_enter Tryd.func12, Tryd.ntmps12
  go_wp2_with fail
  go_region_held3 (fun w' => w'.cell? ⟨w.heap.size, 0, none⟩ = some (.int .i64 nad) ∧ w'.cell? ⟨w.heap.size, 1, none⟩ = some (.int .i64 kind) ∧ w'.cell? ⟨w.heap.size, 2, none⟩ = some (.int .i64 s) ∧ w'.cell? ⟨w.heap.size, 3, none⟩ = some (.bool m) ∧ w'.cell? ⟨w.heap.size, 4, none⟩ = some (.int .i64 code) ∧ w'.cell? ⟨w.heap.size, 5, none⟩ = some (.bool ans) ∧ w'.cell? ⟨w.heap.size, 6, none⟩ = some (.slice A l.length c))
    (first
      | (go_keep; done)
      | exact cells7 HROW.out
      | exact cells7 ((hb1.block _ (by show w.heap.size < (w.alloc _).heap.size; rw [HSZ.out]; omega)).trans HROW.out)
      | exact cells7 ((hb2.block _ hq1).trans ((hb1.block _ (by show w.heap.size < (w.alloc _).heap.size; rw [HSZ.out]; omega)).trans HROW.out))
      | exact cells7 ((hb3.block _ hq2).trans ((hb2.block _ hq1).trans ((hb1.block _ (by show w.heap.size < (w.alloc _).heap.size; rw [HSZ.out]; omega)).trans HROW.out))))
    (first
      | (go_at_call 38; refine (HP.out _ HW.out).mono ?_; rintro e w1 ⟨rfl, hb1⟩; have hq1 : w.heap.size < w1.heap.size := (by have h := hb1.size; have h' : w.heap.size + 1 ≤ w1.heap.size := (by rw [← HSZ.out]; exact h); omega))
      | (go_at_call 39; refine (HR.out _ (HW.out.trans (hb1.mono HW.out.size))).mono ?_; rintro e w2 ⟨rfl, hb2⟩; have hq2 : w.heap.size < w2.heap.size := (by have := hb2.size; omega))
      | (go_at_call 40; refine (HA.out _ ((HW.out.trans (hb1.mono HW.out.size)).trans (hb2.mono (HW.out.trans (hb1.mono HW.out.size)).size))).mono ?_; rintro e w3 ⟨rfl, hb3⟩))
  have hz1 := HW.out.trans (hb1.mono HW.out.size)
  have hz2 := hz1.trans (hb2.mono hz1.size)
  have hz3 := hz2.trans (hb3.mono hz2.size)
  go_wp2_with fail
  go_ret
  exact ⟨rfl, hz3⟩

set_option maxRecDepth 100000 in
set_option maxHeartbeats 1600000 in
theorem law_encs (b : Bk) (k : Int) (v : Value) (w : World) (hv : SL w w.heap.size v b.inf) (hT : Tb w) :
    Calls Tryd.prog 13 #[b.val v, .int .i64 k] w fun e w' => e = .returned (.bool true) ∧ Below w.heap.size w w' := by
  have HV := Lib.hid hv
  have HT := Lib.hid hT
  have HP := fun (W : World) (hW : Below w.heap.size w W) => penc_any k b _ W (HV.out.on hW) (HT.out.on hW)
  have HR := fun (W : World) (hW : Below w.heap.size w W) => renc_any k b _ W (HV.out.on hW)
  unfold BenR at HP HR
  have HA := Lib.hid (fun (W : World) (hW : Below w.heap.size w W) => awake_any W (HT.out.on hW))
  obtain ⟨E, hE⟩ : ∃ E, E = benE k b := ⟨_, rfl⟩
  obtain ⟨V, hV⟩ : ∃ V, V = benV k b := ⟨_, rfl⟩
  simp only [← hE, ← hV] at HP HR
  have HP := Lib.hid HP
  have HR := Lib.hid HR
  clear hE hV
  obtain ⟨A, c, rfl, _, _, _⟩ := hv
  obtain ⟨nad, kind, s, m, code, ans, l⟩ := b
  simp only [Bk.val] at *
  have HROW := Lib.hid (heap_alloc_new w (.cells #[.int .i64 nad, .int .i64 kind, .int .i64 s, .bool m, .int .i64 code, .bool ans, .slice A l.length c] 47))
  have HW := Lib.hid (alloc_below w (.cells #[.int .i64 nad, .int .i64 kind, .int .i64 s, .bool m, .int .i64 code, .bool ans, .slice A l.length c] 47))
  clear hT
  by_cases hl : 300 < l.length
  · go_enter Tryd.func13, Tryd.ntmps13
    go_wp2_with fail
    go_ret
    exact ⟨rfl, HW.out⟩
  · go_enter Tryd.func13, Tryd.ntmps13
    go_wp2_with fail
    refine (HP.out _ HW.out).mono ?_
    rintro e w1 ⟨v1, rfl, hv1, hb1⟩
    have HR1 := Lib.hid ((hb1.block _ (by rw [alloc_size]; omega)).trans HROW.out)
    have HW1 := Lib.hid (HW.out.trans (hb1.mono HW.out.size))
    have HV1 := Lib.hid hv1
    obtain ⟨r0, r1, r2, r3, r4, r5, r6⟩ := cells7 HR1.out
    clear hb1 hv1
    go_wp2_with fail
    refine (HR.out _ HW1.out).mono ?_
    rintro e w2 ⟨v2, rfl, hv2, hb2⟩
    have HW2 := Lib.hid (HW1.out.trans (hb2.mono HW1.out.size))
    have HS := Lib.hid (rsame_any V V v1 v2 w2 _ (HV1.out.on hb2) hv2)
    clear hb2 hv2 r0 r1 r2 r3 r4 r5 r6
    go_wp2_with fail
    refine HS.out.mono ?_
    rintro e w3 ⟨rfl, n, rfl⟩
    have hvv : (V == V) = true := by simp
    rw [hvv]
    clear hvv
    go_wp2_with fail
    refine (HA.out _ (below_drewN HW2.out n)).mono ?_
    rintro e w4 ⟨rfl, hb4⟩
    go_wp2_with fail
    go_ret
    exact ⟨rfl, (below_drewN HW2.out n).trans (hb4.mono (below_drewN HW2.out n).size)⟩
end Go.Proofs.YtnbggokmiokhlaaDoor
