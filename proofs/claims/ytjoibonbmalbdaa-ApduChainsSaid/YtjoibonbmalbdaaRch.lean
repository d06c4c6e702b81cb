/-
  Chain of the reference.
-/
import Derived.Test.YtjoibonbmalbdaaChb
import Derived.Test.YtjoibonbmalbdaaBod
import Derived.Test.YtjoibonbmalbdaaRsp
import Derived.Test.YtjoibonbmalbdaaRjn
namespace Go.Proofs.Ytjoibonbmalbdaa
set_option linter.unusedVariables false
set_option linter.unusedSimpArgs false
open Go.RowKit

/-- One command appended, at a step of a region that draws its order. -/
theorem step_appM {ops : Array Oper} {o : Oper} {a : Act} {W : World} {K : Act → World → Prop} {Q : Exit → Act → World → Prop} {E : Prop} (hgd : o.guard = none) (s x : Operand)
    (ho : o.op = .call { callee := .builtin .append, args := #[s, x], argTypes := #[53, 53] }) (w : World) (base : Nat) (v u : Value) (cs : List Cm) (c : Cm) (B : Nat)
    (hs : a.eval s = v) (hx : a.eval x = .slice (some ⟨B, 0, none⟩) 1 1) (hW : Below w.heap.size w W) (hown : OM w base v cs) (hu : OB W base u c.data) (hB : W.heap[B]? = some (.cells (cmV c u).toArray 24 (0, 0)))
    (hlen : cs.length ≤ 1000000) (hbase : base ≤ w.heap.size)
    (h : ∀ v' w', OM w' base v' (cs ++ [c]) → Below base W w' → K (a.put o.dst v') w') :
    if Region.wanted o (yielded ops a.tmps) = true then Oper.wp Try.prog o a W K Q else E := by
  obtain ⟨i0, hi0, hz0, hz1, hz2⟩ := info_parts info24
  obtain ⟨ps, h1, h2, h3⟩ := hown.later hW
  have hu' := hu
  have hsz := hW.size
  have hone : u.oneCell' = true := by
    obtain ⟨A, c, rfl⟩ := hu.value
    rfl
  refine step_append_lies W hgd s x 53 ho base 24 i0 (.agg #[.int .i64 0, .int .i64 0, .int .i64 0, .int .i64 0, .slice none 0 0, .int .i64 0, .bool false]) 7 72 Try.underlying53 hi0 hz0 hz1 hz2 rfl (by omega) v cs.length (cmVs ps) hs h2 ⟨B, 0, none⟩ 1 1 (cmV c u) hx rfl
    (World.news_of_block (cs := (cmV c u).toArray) hB) (cmV_one c u hone) (by omega) (by simp only [maxLen]; omega) (by omega) (by omega) W.heap.size rfl fun g cap w' k1 k2 k3 k4 => ?_
  have hl : (cs ++ [c]).length = cs.length + 1 := by simp
  have hkept : ∀ {y : Value} {m : List UInt8}, OB W base y m → OB w' base y m := fun {y m} hy => World.ownsRow.kept hy k2 (OB.ne_block7 hy h2)
  refine h _ w' ⟨ps ++ [(c, u)], by simp [h1], by rw [hl, cmVs_app]; simpa [cmVs] using k1, fun p hp => ?_⟩ ((Below.refl _ _).grown k2 (by omega) (fun k hk => (h2.lt k hk).1))
  rcases List.mem_append.1 hp with hp | hp
  · exact hkept (h3 p hp)
  · simp at hp; subst hp; exact hkept hu'

def slN : Value → Nat
  | .slice _ n _ => n
  | _ => 0

set_option maxRecDepth 100000 in
set_option maxHeartbeats 3200000 in
theorem rchn_ok (c : Cm) (n : Int) (u : Value) (w : World) (h : SL w w.heap.size u c.data) (hle : -9223372036854775808 ≤ c.le ∧ c.le ≤ 9223372036854775807) (hd : c.data.length ≤ 5000) (h0 : chnE c n = 0) :
    Calls Try.prog 35 #[c.val u, .int .i64 n] w (ChnR c n w) := by
  obtain ⟨g0, g1, g2, g3, g4⟩ := chn_chk h0
  have HSU := Lib.hid h
  obtain ⟨A, k, rfl, l1, l2, l3⟩ := h
  have L3 := Lib.hid l3
  unfold maxLen at l2
  have HC := Lib.hid (fun (W : World) => rchk_any c A c.data.length k W rfl hle)
  have HK := Lib.hid (fun (W : World) => rcls_any c.cla W)
  have H0 := Lib.hid h0
  have HQ0 : IntKind.i64.wrap (c.cla + 16) = c.cla + 16 := by
    have hq : isB c.cla = true := by
      have h := g3
      unfold clsB at h
      simp only [Bool.and_eq_true] at h
      exact h.1.1.1
    obtain ⟨q0, q1⟩ := isB_yes hq
    exact IntWalk.i64_in _ (by omega)
  have HQ0 := Lib.hid HQ0
  rw [g0] at HC
  rw [g3] at HK
  obtain ⟨m, hm⟩ : ∃ m : Nat, n = (m : Int) := ⟨n.toNat, by omega⟩
  have HMT : Hid (n.toNat = m) := by show _ = _; omega
  subst hm
  have hm1 : 1 ≤ m := by omega
  have hm2 : m ≤ 255 := by omega
  have HMK := Lib.hid (fun r => chnR_more c m hm1 r)
  have HML := Lib.hid (fun r => chnR_last c m r)
  have HL : Hid (chnL c m = chnR c m c.data) := rfl
  obtain ⟨cla, ins, p1, p2, d, le, lg⟩ := c
  simp only [Cm.val, Kl.val] at *
  have hal := Lib.hid (alloc_below w (.cells #[.int .i64 cla, .int .i64 ins, .int .i64 p1, .int .i64 p2, .slice A d.length k, .int .i64 le, .bool lg] 24))
  have hrow := Lib.hid (heap_alloc_new w (.cells #[.int .i64 cla, .int .i64 ins, .int .i64 p1, .int .i64 p2, .slice A d.length k, .int .i64 le, .bool lg] 24))
  have i1 : ¬ (m : Int) < 1 := by omega
  have i2 : ¬ 255 < (m : Int) := by omega
  generalize clsK cla = kk at *
  obtain ⟨k0, k1, k2, k3⟩ := kk
  simp only at g4 HK
  subst g4
  clear h0 g0 g1 g2 g3 hle l3
  go_enter Try.func35, Try.ntmps35
  go_wp2_with fail
  refine (HC.out _).mono ?_
  rintro e w1 ⟨rfl, hb1⟩
  have HB1 := Lib.hid (hal.out.trans (hb1.mono hal.out.size))
  have HR1 := Lib.hid ((hb1.block _ (lt_row hrow.out)).trans hrow.out)
  clear hb1
  obtain ⟨r0, r1, r2, r3, r4, r5, r6⟩ := box7 (w' := w1) HR1.out
  go_wp2_with fail
  refine (HK.out _).mono ?_
  rintro e w2 ⟨rfl, hb2⟩
  have HB2 := Lib.hid (HB1.out.trans (hb2.mono HB1.out.size))
  have HR2 := Lib.hid ((hb2.block _ (lt_row HR1.out)).trans HR1.out)
  clear hb2 r0 r1 r2 r3 r4 r5 r6
  have hb3 := alloc_below w2 (.cells #[.int .i64 k0, .bool k1, .bool false, .bool k3] 47)
  have HB3 := Lib.hid (HB2.out.trans (hb3.mono HB2.out.size))
  have HR3 := Lib.hid ((hb3.block _ (lt_row HR2.out)).trans HR2.out)
  clear hb3
  obtain ⟨r0, r1, r2, r3, r4, r5, r6⟩ := box7 (w' := w2) HR3.out
  go_wp2_with fail
  have HOK : Hid (∀ v W, ML W W.heap.size v (chnR ⟨cla, ins, p1, p2, d, le, lg⟩ m d) → Below w.heap.size w W → ChnR ⟨cla, ins, p1, p2, d, le, lg⟩ (m : Int) w (.returned (.tuple #[v, .int .i64 0])) W) := fun v W hv hW => chn_ok H0.out (by rw [HMT.out, HL.out]; exact hv) hW
  have HD0 := Lib.hid ((HSU.out.on HB3.out))
  clear r0 r1 r2 r3 r4 r5 r6
  generalize w2.alloc (.cells #[.int .i64 k0, .bool k1, .bool false, .bool k3] 47) = w3 at *
  have HCW : Hid (∀ W, Below w3.heap.size w3 W → W.cell? ⟨w.heap.size, 0, none⟩ = some (.int .i64 cla) ∧ W.cell? ⟨w.heap.size, 1, none⟩ = some (.int .i64 ins) ∧ W.cell? ⟨w.heap.size, 2, none⟩ = some (.int .i64 p1) ∧ W.cell? ⟨w.heap.size, 3, none⟩ = some (.int .i64 p2) ∧ W.cell? ⟨w.heap.size, 5, none⟩ = some (.int .i64 le) ∧ W.cell? ⟨w.heap.size, 6, none⟩ = some (.bool lg)) := fun W hW => by
    obtain ⟨r0, r1, r2, r3, r4, r5, r6⟩ := box7 (w' := W) ((hW.block _ (lt_row HR3.out)).trans HR3.out)
    exact ⟨r0, r1, r2, r3, r5, r6⟩
  have HWR : Hid (IntKind.i64.wrap (cla + 16) = cla + 16) := HQ0
  go_loopw [9, 10] (fun t r wr => ∃ (lo : List Cm) (rs : List UInt8) (Ar : Option Addr) (cr : Nat), r = .slice Ar rs.length cr ∧ rs.length ≤ cr ∧ cr ≤ 9223372036854775807 ∧ Hid (chnR ⟨cla, ins, p1, p2, d, le, lg⟩ m d = lo ++ chnR ⟨cla, ins, p1, p2, d, le, lg⟩ m rs) ∧ Hid (SL w3 w3.heap.size (.slice Ar rs.length cr) rs) ∧ Hid (Below w3.heap.size w3 wr) ∧ Hid (OM wr w3.heap.size t lo) ∧ Hid (lo.length + rs.length ≤ 5000)) (fun _ r _ => slN r)
  case atStart => exact ⟨[], d, A, k, rfl, l1, l2, rfl, HD0.out, Below.refl _ _, OM.nil _ _, by show _ ≤ _; simpa using hd⟩
  case round =>
    obtain ⟨lo, rs, Ar, cr, rfl, hr1, hr2, HE, HS, HB, HO, HN⟩ := hrel
    obtain ⟨At, ct, rfl⟩ := HO.out.value
    by_cases hlt : m < rs.length
    case neg =>
      have hlt' : ¬ (m : Int) < (rs.length : Int) := by omega
      have HMR := Lib.hid (HML.out rs (by omega))
      have hmade := OB.made wr
      have hb00 := Below.refl wr.heap.size wr
      have hb01 := hb00.drew
      have hb10 := alloc_below wr (.cells #[] 5)
      have hb11 := hb10.drew
      have HCV : Hid (∀ W, Below wr.heap.size wr W → W.cell? ⟨w.heap.size, 0, none⟩ = some (.int .i64 cla) ∧ W.cell? ⟨w.heap.size, 1, none⟩ = some (.int .i64 ins) ∧ W.cell? ⟨w.heap.size, 2, none⟩ = some (.int .i64 p1) ∧ W.cell? ⟨w.heap.size, 3, none⟩ = some (.int .i64 p2) ∧ W.cell? ⟨w.heap.size, 5, none⟩ = some (.int .i64 le) ∧ W.cell? ⟨w.heap.size, 6, none⟩ = some (.bool lg)) := fun W hW => HCW.out W (HB.out.trans (hW.mono HB.out.size))
      obtain ⟨r0, r1, r2, r3, r5, r6⟩ := HCV.out _ hb00
      have HTX : Hid (∀ W, Below wr.heap.size wr W → SL W W.heap.size (.slice Ar rs.length cr) rs) := fun W hW => HS.out.on (HB.out.trans (hW.mono HB.out.size))
      have HB11 := Lib.hid hb11
      have HB10 := Lib.hid hb10
      go_wp2_with fail
      go_region_held3 (fun w' => w'.cell? ⟨w.heap.size, 0, none⟩ = some (.int .i64 cla) ∧ w'.cell? ⟨w.heap.size, 1, none⟩ = some (.int .i64 ins) ∧ w'.cell? ⟨w.heap.size, 2, none⟩ = some (.int .i64 p1) ∧ w'.cell? ⟨w.heap.size, 3, none⟩ = some (.int .i64 p2) ∧ w'.cell? ⟨w.heap.size, 5, none⟩ = some (.int .i64 le) ∧ w'.cell? ⟨w.heap.size, 6, none⟩ = some (.bool lg))
        (first
          | with_reducible exact HCV.out _ hb00
          | with_reducible exact HCV.out _ hb01
          | with_reducible exact HCV.out _ hb10
          | with_reducible exact HCV.out _ hb11
          | with_reducible exact HCV.out _ hb5
          | with_reducible exact HCV.out _ hb6
          | with_reducible exact HCW.out _ hb8
          | (go_keep; done))
        (first
          | (refine step_appS rfl (.tmp 70) (.tmp 71) rfl (wr.alloc (.cells #[] 5)) wr.heap.size _ [] rs Ar cr (by rfl) (by rfl) (by first | exact Below.refl _ _ | exact (Below.refl _ _).drew) hmade (fun hp => by first | exact slr7 (HTX.out _ hb10) hp | exact slr7 (HTX.out _ hb11) hp) (by simp only [List.length_nil]; have := HN.out; omega) (by rw [alloc_size]; omega) ?_; intro v5 w5 hv5 hb5'; obtain ⟨A5, c5, rfl⟩ := hv5.value; have hb5 : Below wr.heap.size wr w5 := (HB10.out.trans hb5'); have hb6 := hb5.trans ((alloc_below w5 (.cells #[.int .i64 cla, .int .i64 ins, .int .i64 p1, .int .i64 p2, .slice A5 ([] ++ rs).length c5, .int .i64 le, .bool lg] 24)).mono hb5.size))
          | (refine step_appM rfl (.tmp 61) (.tmp 78) rfl wr w3.heap.size _ (.slice A5 ([] ++ rs).length c5) lo (lastC ⟨cla, ins, p1, p2, d, le, lg⟩ rs) w5.heap.size (by rfl) (by rfl) hb6 HO.out ((hv5.more HB.out.size).later (alloc_below w5 _)) (heap_alloc_new w5 _) (by have := HN.out; omega) HB.out.size ?_; intro v8 w8 hv8 hb8'; have hb8 := (HB.out.trans (hb6.mono HB.out.size)).trans hb8'))
      obtain ⟨A8, c8, rfl⟩ := hv8.value
      go_wp2_with fail
      go_ret2
      exact HOK.out _ _ (by rw [HE.out, HMR.out]; exact hv8.ml) (HB3.out.trans (hb8.mono HB3.out.size))
    have hlt' : (m : Int) < (rs.length : Int) := by omega
    obtain ⟨b, o, rfl⟩ : ∃ b o, Ar = some ⟨b, o, none⟩ := by
      obtain ⟨A', c', e, _, _, h3⟩ := HS.out
      simp only [Value.slice.injEq] at e
      obtain ⟨rfl, _, _⟩ := e
      obtain ⟨b, o, hA, _⟩ := h3 (by omega)
      exact ⟨b, o, hA⟩
    have HST := Lib.hid (HS.out.take (m := m) (by omega))
    have HSD := Lib.hid (HS.out.cut (n := m) hlt)
    have HMR := Lib.hid (HMK.out rs hlt)
    obtain ⟨t, ht⟩ : ∃ t, t = rs.take m := ⟨_, rfl⟩
    have HTL : Hid (t.length = m) := by show _ = _; rw [ht, List.length_take]; omega
    rw [← ht] at HST HMR
    clear ht
    have hmc : (m : Int) ≤ (cr : Int) := by omega
    have hmc2 : m ≤ cr := by omega
    have hm0 : (0 : Int) ≤ (m : Int) := by omega
    have hmade := OB.made wr
    have hwr := HWR.out
    have hb00 := Below.refl wr.heap.size wr
    have hb01 := hb00.drew
    have hb10 := alloc_below wr (.cells #[] 5)
    have hb11 := hb10.drew
    have HCV : Hid (∀ W, Below wr.heap.size wr W → W.cell? ⟨w.heap.size, 0, none⟩ = some (.int .i64 cla) ∧ W.cell? ⟨w.heap.size, 1, none⟩ = some (.int .i64 ins) ∧ W.cell? ⟨w.heap.size, 2, none⟩ = some (.int .i64 p1) ∧ W.cell? ⟨w.heap.size, 3, none⟩ = some (.int .i64 p2) ∧ W.cell? ⟨w.heap.size, 5, none⟩ = some (.int .i64 le) ∧ W.cell? ⟨w.heap.size, 6, none⟩ = some (.bool lg)) := fun W hW => HCW.out W (HB.out.trans (hW.mono HB.out.size))
    obtain ⟨r0, r1, r2, r3, r5, r6⟩ := HCV.out _ hb00
    have HTX : Hid (∀ W, Below wr.heap.size wr W → SL W W.heap.size (.slice (some ⟨b, o, none⟩) m cr) t) := fun W hW => HST.out.on (HB.out.trans (hW.mono HB.out.size))
    go_wp2_with fail
    have HB11 := Lib.hid hb11
    have HB10 := Lib.hid hb10
    go_region_held3 (fun w' => w'.cell? ⟨w.heap.size, 0, none⟩ = some (.int .i64 cla) ∧ w'.cell? ⟨w.heap.size, 1, none⟩ = some (.int .i64 ins) ∧ w'.cell? ⟨w.heap.size, 2, none⟩ = some (.int .i64 p1) ∧ w'.cell? ⟨w.heap.size, 3, none⟩ = some (.int .i64 p2) ∧ w'.cell? ⟨w.heap.size, 5, none⟩ = some (.int .i64 le) ∧ w'.cell? ⟨w.heap.size, 6, none⟩ = some (.bool lg))
      (first
        | with_reducible exact HCV.out _ hb00
        | with_reducible exact HCV.out _ hb01
        | with_reducible exact HCV.out _ hb10
        | with_reducible exact HCV.out _ hb11
        | with_reducible exact HCV.out _ hb5
        | with_reducible exact HCV.out _ hb6
        | with_reducible exact HCW.out _ hb8
        | (go_keep; done))
      (first
        | (refine step_appS rfl (.tmp 50) (.tmp 53) rfl (wr.alloc (.cells #[] 5)) wr.heap.size _ [] t (some ⟨b, o, none⟩) cr (by rfl) (by rw [HTL.out]; rfl) (by first | exact Below.refl _ _ | exact (Below.refl _ _).drew) hmade (fun hp => by first | exact slr7 (HTX.out _ hb10) hp | exact slr7 (HTX.out _ hb11) hp) (by simp only [List.length_nil]; rw [HTL.out]; omega) (by rw [alloc_size]; omega) ?_; intro v5 w5 hv5 hb5'; obtain ⟨A5, c5, rfl⟩ := hv5.value; have hb5 : Below wr.heap.size wr w5 := (HB10.out.trans hb5'); have hb6 := hb5.trans ((alloc_below w5 (.cells #[.int .i64 (cla + 16), .int .i64 ins, .int .i64 p1, .int .i64 p2, .slice A5 ([] ++ t).length c5, .int .i64 0, .bool false] 24)).mono hb5.size))
        | (refine step_appM rfl (.tmp 40) (.tmp 56) rfl wr w3.heap.size _ (.slice A5 ([] ++ t).length c5) lo (mkC ⟨cla, ins, p1, p2, d, le, lg⟩ t) w5.heap.size (by rfl) (by rfl) hb6 HO.out ((hv5.more HB.out.size).later (alloc_below w5 _)) (heap_alloc_new w5 _) (by have := HN.out; omega) HB.out.size ?_; intro v8 w8 hv8 hb8'; have hb8 := (HB.out.trans (hb6.mono HB.out.size)).trans hb8'))
    clear r0 r1 r2 r3 r5 r6 hmade hb00 hb01 hb10 hb11
    have hml : (m : Int) ≤ (rs.length : Int) := by omega
    go_wp2_with fail
    have HD : Hid (chnR ⟨cla, ins, p1, p2, d, le, lg⟩ m d = (lo ++ [mkC ⟨cla, ins, p1, p2, d, le, lg⟩ t]) ++ chnR ⟨cla, ins, p1, p2, d, le, lg⟩ m (rs.drop m)) := by show _ = _; rw [HE.out, HMR.out]; simp
    have hdl : (rs.drop m).length = rs.length - m := List.length_drop
    refine ⟨⟨lo ++ [mkC ⟨cla, ins, p1, p2, d, le, lg⟩ t], rs.drop m, some ⟨b, o + m, none⟩, cr - m, by rw [hdl], by rw [hdl]; omega, by omega, HD.out, by rw [hdl]; exact HSD.out, hb8, hv8, ?_⟩, ?_⟩
    · show _ ≤ _
      have := HN.out
      rw [hdl, List.length_append]
      simp
      omega
    · simp [slN]; omega
end Go.Proofs.Ytjoibonbmalbdaa
