/-
  The reference's Text of any block; the law BlockTexts.
-/
import Derived.Test.YtijiggfeamibkaaDoorBte
import Derived.Test.YtijiggfeamibkaaDoorAwk
import Derived.Test.YtijiggfeamibkaaDoorSmb
namespace Go.Proofs.YtijiggfeamibkaaDoor
set_option linter.unusedVariables false
set_option linter.unusedSimpArgs false
open Go.RowKit

theorem rtext_any (b : Bk) (v : Value) (w : World) (hv : SL w w.heap.size v b.inf) :
    Calls Tryd.prog 5 #[b.val v] w fun e w' => e = .returned (.string ⟨(txtB b).toArray⟩) ∧ Below w.heap.size w w' := by
  unfold txtB
  by_cases h : chkB b = 0
  · rw [if_pos h]
    have hk : b.kind = 0 ∨ b.kind = 1 ∨ b.kind = 2 := (chk_ok h).2.2.2.2
    obtain ⟨nad, kind, s, m, code, ans, l⟩ := b
    rcases hk with rfl | rfl | rfl
    · exact rtext_inf nad s code m ans l v w hv h
    · exact rtext_rdy nad s code m ans l v w hv h
    · exact rtext_sup nad s code m ans l v w hv h
  · rw [if_neg h]
    exact rtext_err b v w hv h
theorem ba_inj (l m : List UInt8) : (⟨l.toArray⟩ : ByteArray) = ⟨m.toArray⟩ ↔ l = m := by
  constructor
  · intro h
    have := congrArg (fun z : ByteArray => z.data.toList) h
    simpa using this
  · intro h; rw [h]
theorem ba_tl (a b : ByteArray) : a.toList = b.toList ↔ a = b := by
  rw [ByteArray.toList_eq, ByteArray.toList_eq]
  constructor
  · intro h; exact ByteArray.ext (Array.toList_inj.1 h)
  · intro h; rw [h]
theorem ba_tl0 (a : ByteArray) : a.toList = [] ↔ a = ⟨#[]⟩ := by
  rw [ByteArray.toList_eq]
  constructor
  · intro h; exact ByteArray.ext (Array.toList_inj.1 h)
  · intro h; rw [h]
theorem cells14 {W : World} {n : Nat} {x0 x1 x2 x3 x4 x5 x6 y0 y1 y2 y3 y4 y5 y6 : Value} (ra : W.heap[n]? = some (.cells #[x0, x1, x2, x3, x4, x5, x6] 24 (0, 0))) (rb : W.heap[n + 1]? = some (.cells #[y0, y1, y2, y3, y4, y5, y6] 24 (0, 0))) :
    W.cell? ⟨n, 0, none⟩ = some x0 ∧ W.cell? ⟨n, 1, none⟩ = some x1 ∧ W.cell? ⟨n, 2, none⟩ = some x2 ∧ W.cell? ⟨n, 3, none⟩ = some x3 ∧ W.cell? ⟨n, 4, none⟩ = some x4 ∧ W.cell? ⟨n, 5, none⟩ = some x5 ∧ W.cell? ⟨n, 6, none⟩ = some x6 ∧ W.cell? ⟨n + 1, 0, none⟩ = some y0 ∧ W.cell? ⟨n + 1, 1, none⟩ = some y1 ∧ W.cell? ⟨n + 1, 2, none⟩ = some y2 ∧ W.cell? ⟨n + 1, 3, none⟩ = some y3 ∧ W.cell? ⟨n + 1, 4, none⟩ = some y4 ∧ W.cell? ⟨n + 1, 5, none⟩ = some y5 ∧ W.cell? ⟨n + 1, 6, none⟩ = some y6 :=
  ⟨cell_of_row _ _ 0 _ _ _ ra, cell_of_row _ _ 1 _ _ _ ra, cell_of_row _ _ 2 _ _ _ ra, cell_of_row _ _ 3 _ _ _ ra, cell_of_row _ _ 4 _ _ _ ra, cell_of_row _ _ 5 _ _ _ ra, cell_of_row _ _ 6 _ _ _ ra, cell_of_row _ _ 0 _ _ _ rb, cell_of_row _ _ 1 _ _ _ rb, cell_of_row _ _ 2 _ _ _ rb, cell_of_row _ _ 3 _ _ _ rb, cell_of_row _ _ 4 _ _ _ rb, cell_of_row _ _ 5 _ _ _ rb, cell_of_row _ _ 6 _ _ _ rb⟩

theorem same_self (b : Bk) : sameB b b = true := by
  obtain ⟨nad, kind, s, m, code, ans, l⟩ := b
  simp [sameB]

set_option maxRecDepth 100000 in
set_option maxHeartbeats 3200000 in
theorem law_texts (a b : Bk) (v u : Value) (w : World) (ha : SL w w.heap.size v a.inf) (hb : SL w w.heap.size u b.inf) (hT : Tb w) :
    Calls Tryd.prog 3 #[a.val v, b.val u] w fun e w' => e = .returned (.bool true) ∧ Below w.heap.size w w' := by
  have HP := Lib.hid (fun (W : World) (hW : Below w.heap.size w W) => ptext_any a v W (ha.on hW))
  have HP2 := Lib.hid (fun (W : World) (hW : Below w.heap.size w W) => ptext_any b u W (hb.on hW))
  have HR := Lib.hid (fun (W : World) (hW : Below w.heap.size w W) => rtext_any a v W (ha.on hW))
  have HR2 := Lib.hid (fun (W : World) (hW : Below w.heap.size w W) => rtext_any b u W (hb.on hW))
  have HS := Lib.hid (fun (W : World) (hW : Below w.heap.size w W) => rsameb_any a b v u W (ha.on hW) (hb.on hW))
  have HA := Lib.hid (fun (W : World) (hW : Below w.heap.size w W) => awake_any W (hT.on hW))
  have HI : Hid ((⟨(txtB a).toArray⟩ : ByteArray) = ⟨(txtB b).toArray⟩ → (⟨(txtB a).toArray⟩ : ByteArray) ≠ ⟨#[]⟩ → sameB a b = true) := fun h1 h2 => by
    rw [txt_inj ((ba_inj _ _).1 h1) (fun h => h2 ((ba_inj _ []).2 h))]; exact same_self b
  obtain ⟨A1, c1, rfl, l1, m1, _⟩ := ha
  obtain ⟨A2, c2, rfl, l2, m2, _⟩ := hb
  generalize (⟨(txtB a).toArray⟩ : ByteArray) = T1 at *
  generalize (⟨(txtB b).toArray⟩ : ByteArray) = T2 at *
  generalize sameB a b = S at *
  obtain ⟨a0, a1, a2, a3, a4, a5, ad⟩ := a
  obtain ⟨b0, b1, b2, b3, b4, b5, bd⟩ := b
  simp only [Bk.val] at *
  unfold maxLen at m1 m2
  clear hT
  have h2 := below_2 w (.cells #[.int .i64 a0, .int .i64 a1, .int .i64 a2, .bool a3, .int .i64 a4, .bool a5, .slice A1 ad.length c1] 24) (.cells #[.int .i64 b0, .int .i64 b1, .int .i64 b2, .bool b3, .int .i64 b4, .bool b5, .slice A2 bd.length c2] 24)
  have ra0 : ((w.alloc (.cells #[.int .i64 a0, .int .i64 a1, .int .i64 a2, .bool a3, .int .i64 a4, .bool a5, .slice A1 ad.length c1] 24)).alloc (.cells #[.int .i64 b0, .int .i64 b1, .int .i64 b2, .bool b3, .int .i64 b4, .bool b5, .slice A2 bd.length c2] 24)).heap[w.heap.size]? = some (.cells #[.int .i64 a0, .int .i64 a1, .int .i64 a2, .bool a3, .int .i64 a4, .bool a5, .slice A1 ad.length c1] 24 (0, 0)) := heap_alloc2_old w _ _
  have rb0 : ((w.alloc (.cells #[.int .i64 a0, .int .i64 a1, .int .i64 a2, .bool a3, .int .i64 a4, .bool a5, .slice A1 ad.length c1] 24)).alloc (.cells #[.int .i64 b0, .int .i64 b1, .int .i64 b2, .bool b3, .int .i64 b4, .bool b5, .slice A2 bd.length c2] 24)).heap[w.heap.size + 1]? = some (.cells #[.int .i64 b0, .int .i64 b1, .int .i64 b2, .bool b3, .int .i64 b4, .bool b5, .slice A2 bd.length c2] 24 (0, 0)) := by
    have := heap_alloc_new (w.alloc (.cells #[.int .i64 a0, .int .i64 a1, .int .i64 a2, .bool a3, .int .i64 a4, .bool a5, .slice A1 ad.length c1] 24)) (.cells #[.int .i64 b0, .int .i64 b1, .int .i64 b2, .bool b3, .int .i64 b4, .bool b5, .slice A2 bd.length c2] 24)
    rw [alloc_size] at this
    exact this
  have RA0 := Lib.hid ra0
  have RB0 := Lib.hid rb0
  have hsz : ((w.alloc (.cells #[.int .i64 a0, .int .i64 a1, .int .i64 a2, .bool a3, .int .i64 a4, .bool a5, .slice A1 ad.length c1] 24)).alloc (.cells #[.int .i64 b0, .int .i64 b1, .int .i64 b2, .bool b3, .int .i64 b4, .bool b5, .slice A2 bd.length c2] 24)).heap.size = w.heap.size + 2 := by rw [alloc_size, alloc_size]
  have HSZ := Lib.hid hsz
  have HW0 := Lib.hid h2
  clear ra0 rb0 h2 hsz
  by_cases n1 : (300 : Int) < (ad.length : Int)
  · go_enter Tryd.func3, Tryd.ntmps3
    go_wp2_with fail
    go_ret
    exact ⟨rfl, HW0.out⟩
  by_cases n2 : (300 : Int) < (bd.length : Int)
  · go_enter Tryd.func3, Tryd.ntmps3
    go_wp2_with fail
    go_ret
    exact ⟨rfl, HW0.out⟩
  go_enter Tryd.func3, Tryd.ntmps3
  go_wp2_with fail
  generalize (w.alloc (.cells #[.int .i64 a0, .int .i64 a1, .int .i64 a2, .bool a3, .int .i64 a4, .bool a5, .slice A1 ad.length c1] 24)).alloc (.cells #[.int .i64 b0, .int .i64 b1, .int .i64 b2, .bool b3, .int .i64 b4, .bool b5, .slice A2 bd.length c2] 24) = W0 at *
  have HS7 : Hid (∀ W, Below W0.heap.size W0 W → W.cell? ⟨w.heap.size, 0, none⟩ = some (.int .i64 a0) ∧ W.cell? ⟨w.heap.size, 1, none⟩ = some (.int .i64 a1) ∧ W.cell? ⟨w.heap.size, 2, none⟩ = some (.int .i64 a2) ∧ W.cell? ⟨w.heap.size, 3, none⟩ = some (.bool a3) ∧ W.cell? ⟨w.heap.size, 4, none⟩ = some (.int .i64 a4) ∧ W.cell? ⟨w.heap.size, 5, none⟩ = some (.bool a5) ∧ W.cell? ⟨w.heap.size, 6, none⟩ = some (.slice A1 ad.length c1) ∧ W.cell? ⟨w.heap.size + 1, 0, none⟩ = some (.int .i64 b0) ∧ W.cell? ⟨w.heap.size + 1, 1, none⟩ = some (.int .i64 b1) ∧ W.cell? ⟨w.heap.size + 1, 2, none⟩ = some (.int .i64 b2) ∧ W.cell? ⟨w.heap.size + 1, 3, none⟩ = some (.bool b3) ∧ W.cell? ⟨w.heap.size + 1, 4, none⟩ = some (.int .i64 b4) ∧ W.cell? ⟨w.heap.size + 1, 5, none⟩ = some (.bool b5) ∧ W.cell? ⟨w.heap.size + 1, 6, none⟩ = some (.slice A2 bd.length c2)) := fun W hW =>
    cells14 ((hW.block _ (by rw [HSZ.out]; omega)).trans RA0.out) ((hW.block _ (by rw [HSZ.out]; omega)).trans RB0.out)
  have HUP : Hid (∀ W, Below W0.heap.size W0 W → Below w.heap.size w W) := fun W hW => HW0.out.trans (hW.mono HW0.out.size)
  have HK : Hid (∀ W w', Below W0.heap.size W0 W → Below W.heap.size W w' → Below W0.heap.size W0 w') := fun W w' h h' => h.trans (h'.mono h.size)
  refine (HP.out _ (HUP.out _ (Below.refl _ _))).mono ?_
  rintro e w1 ⟨rfl, hb1⟩
  have HB1 := Lib.hid (HK.out _ _ (Below.refl _ _) hb1)
  clear hb1
  obtain ⟨s0, s1, s2, s3, s4, s5, s6, s7, s8, s9, s10, s11, s12, s13⟩ := HS7.out _ HB1.out
  go_wp2_with fail
  refine (HP2.out _ (HUP.out _ HB1.out)).mono ?_
  rintro e w2 ⟨rfl, hb2⟩
  have HB2 := Lib.hid (HK.out _ _ HB1.out hb2)
  clear hb2 s0 s1 s2 s3 s4 s5 s6 s7 s8 s9 s10 s11 s12 s13
  obtain ⟨s0, s1, s2, s3, s4, s5, s6, s7, s8, s9, s10, s11, s12, s13⟩ := HS7.out _ HB2.out
  go_wp2_with fail
  refine (HR.out _ (HUP.out _ HB2.out)).mono ?_
  rintro e w3 ⟨rfl, hb3⟩
  have HB3 := Lib.hid (HK.out _ _ HB2.out hb3)
  clear hb3 s0 s1 s2 s3 s4 s5 s6 s7 s8 s9 s10 s11 s12 s13
  obtain ⟨s0, s1, s2, s3, s4, s5, s6, s7, s8, s9, s10, s11, s12, s13⟩ := HS7.out _ HB3.out
  go_wp2_with fail
  refine (HR2.out _ (HUP.out _ HB3.out)).mono ?_
  rintro e w4 ⟨rfl, hb4⟩
  have HB4 := Lib.hid (HK.out _ _ HB3.out hb4)
  clear hb4 s0 s1 s2 s3 s4 s5 s6 s7 s8 s9 s10 s11 s12 s13
  obtain ⟨s0, s1, s2, s3, s4, s5, s6, s7, s8, s9, s10, s11, s12, s13⟩ := HS7.out _ HB4.out
  by_cases z1 : T1.toList = T2.toList
  case neg =>
    go_wp2_with fail
    refine (HA.out _ (HUP.out _ HB4.out)).mono ?_
    rintro e w5 ⟨rfl, hb5⟩
    go_wp2_with fail
    go_ret
    exact ⟨rfl, HUP.out _ (HK.out _ _ HB4.out hb5)⟩
  have zz := (ba_tl _ _).1 z1
  subst zz
  clear z1
  by_cases z2 : T1.toList = []
  case pos =>
    go_wp2_with fail
    refine (HA.out _ (HUP.out _ HB4.out)).mono ?_
    rintro e w5 ⟨rfl, hb5⟩
    go_wp2_with fail
    go_ret
    exact ⟨rfl, HUP.out _ (HK.out _ _ HB4.out hb5)⟩
  obtain rfl : S = true := HI.out rfl (fun h => z2 ((ba_tl0 _).2 h))
  go_wp2_with fail
  refine (HS.out _ (HUP.out _ HB4.out)).mono ?_
  rintro e w5 ⟨rfl, hb5⟩
  have HB5 := Lib.hid (HK.out _ _ HB4.out hb5)
  clear hb5
  go_wp2_with fail
  refine (HA.out _ (HUP.out _ HB5.out)).mono ?_
  rintro e w6 ⟨rfl, hb6⟩
  go_wp2_with fail
  go_ret
  exact ⟨rfl, HUP.out _ (HK.out _ _ HB5.out hb6)⟩
end Go.Proofs.YtijiggfeamibkaaDoor
