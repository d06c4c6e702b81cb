
/-
  The walk of the reference's Check.
-/
import Derived.Test.YtijiggfeamibkaaDoorChk
namespace Go.Proofs.YtijiggfeamibkaaDoor
set_option linter.unusedVariables false
set_option linter.unusedSimpArgs false
open Go.RowKit

theorem chkK_2 {b : Bk} {k : Kd} (h : (okNad b.nad && k.rng) = false) : chkK b k = 2 := by rw [chkK, h]; rfl
theorem chkK_4 {b : Bk} {k : Kd} (h : okNad b.nad = true) (h' : k.rng = true) (hc : clean b k = false) : chkK b k = 4 := by rw [chkK, h, h', hc]; rfl
theorem chkK_0 {b : Bk} {k : Kd} (h : okNad b.nad = true) (h' : k.rng = true) (hc : clean b k = true) : chkK b k = k.infE b.inf := by rw [chkK, h, h', hc]; rfl
theorem okNad_lo {n : Int} (h : n < 0) : okNad n = false := by simp [okNad]; omega
theorem okNad_hi {n : Int} (h : 254 < n) : okNad n = false := by simp [okNad]; omega
theorem okNad_in {n : Int} (h : ¬ n < 0) (h' : ¬ 254 < n) : okNad n = true := by simp [okNad]; omega
theorem and_no {a b : Bool} (h : a = false ∨ b = false) : (a && b) = false := by rcases h with rfl | rfl <;> simp

theorem rinf_0 (nad s code : Int) (m ans : Bool) (l : List UInt8) (v : Value) (w : World) (hv : SL w w.heap.size v l) : Calls Tryd.prog 20 #[Bk.val ⟨nad, 0, s, m, code, ans, l⟩ v] w fun e w' => e = .returned (.int .i64 ((Kd.inf s m).infE l)) ∧ Below w.heap.size w w' := by
  obtain ⟨A, c, rfl, k1, k2, k3⟩ := hv
  simp only [Bk.val]
  clear k3
  by_cases h : 254 < l.length
  · have HE : Hid ((Kd.inf s m).infE l = 3) := by show _ = _; simp only [Kd.infE]; rw [if_pos h]
    go_enter Tryd.func20, Tryd.ntmps20
    go_wp2
    go_ret
    exact ⟨by rw [HE.out]; rfl, alloc_below _ _⟩
  · have HE : Hid ((Kd.inf s m).infE l = 0) := by show _ = _; simp only [Kd.infE]; rw [if_neg h]
    have h' : l.length ≤ 254 := by omega
    clear h
    go_enter Tryd.func20, Tryd.ntmps20
    go_wp2
    go_ret
    exact ⟨by rw [HE.out]; rfl, alloc_below _ _⟩
theorem rinf_1 (nad s code : Int) (m ans : Bool) (l : List UInt8) (v : Value) (w : World) (hv : SL w w.heap.size v l) : Calls Tryd.prog 20 #[Bk.val ⟨nad, 1, s, m, code, ans, l⟩ v] w fun e w' => e = .returned (.int .i64 (emptyE l)) ∧ Below w.heap.size w w' := by
  obtain ⟨A, c, rfl, k1, k2, k3⟩ := hv
  simp only [Bk.val]
  clear k3
  by_cases h : l.length = 0
  · have HE : Hid (emptyE l = 0) := by show _ = _; rw [emptyE, if_pos h]
    have q : ((l.length : Int) != 0) = false := by rw [h]; rfl
    clear h
    go_enter Tryd.func20, Tryd.ntmps20
    go_wp2
    go_ret
    exact ⟨by rw [HE.out]; rfl, alloc_below _ _⟩
  · have HE : Hid (emptyE l = 4) := by show _ = _; rw [emptyE, if_neg h]
    have q : ((l.length : Int) != 0) = true := by rw [bne_iff_ne]; omega
    clear h
    go_enter Tryd.func20, Tryd.ntmps20
    go_wp2
    go_ret
    exact ⟨by rw [HE.out]; rfl, alloc_below _ _⟩
theorem rinf_20 (nad s : Int) (m ans : Bool) (l : List UInt8) (v : Value) (w : World) (hv : SL w w.heap.size v l) : Calls Tryd.prog 20 #[Bk.val ⟨nad, 2, s, m, 0, ans, l⟩ v] w fun e w' => e = .returned (.int .i64 (emptyE l)) ∧ Below w.heap.size w w' := by
  obtain ⟨A, c, rfl, k1, k2, k3⟩ := hv
  simp only [Bk.val]
  clear k3
  by_cases h : l.length = 0
  · have HE : Hid (emptyE l = 0) := by show _ = _; rw [emptyE, if_pos h]
    have q : ((l.length : Int) != 0) = false := by rw [h]; rfl
    clear h
    go_enter Tryd.func20, Tryd.ntmps20
    go_wp2
    go_ret
    exact ⟨by rw [HE.out]; rfl, alloc_below _ _⟩
  · have HE : Hid (emptyE l = 4) := by show _ = _; rw [emptyE, if_neg h]
    have q : ((l.length : Int) != 0) = true := by rw [bne_iff_ne]; omega
    clear h
    go_enter Tryd.func20, Tryd.ntmps20
    go_wp2
    go_ret
    exact ⟨by rw [HE.out]; rfl, alloc_below _ _⟩
theorem rinf_22 (nad s : Int) (m ans : Bool) (l : List UInt8) (v : Value) (w : World) (hv : SL w w.heap.size v l) : Calls Tryd.prog 20 #[Bk.val ⟨nad, 2, s, m, 2, ans, l⟩ v] w fun e w' => e = .returned (.int .i64 (emptyE l)) ∧ Below w.heap.size w w' := by
  obtain ⟨A, c, rfl, k1, k2, k3⟩ := hv
  simp only [Bk.val]
  clear k3
  by_cases h : l.length = 0
  · have HE : Hid (emptyE l = 0) := by show _ = _; rw [emptyE, if_pos h]
    have q : ((l.length : Int) != 0) = false := by rw [h]; rfl
    clear h
    go_enter Tryd.func20, Tryd.ntmps20
    go_wp2
    go_ret
    exact ⟨by rw [HE.out]; rfl, alloc_below _ _⟩
  · have HE : Hid (emptyE l = 4) := by show _ = _; rw [emptyE, if_neg h]
    have q : ((l.length : Int) != 0) = true := by rw [bne_iff_ne]; omega
    clear h
    go_enter Tryd.func20, Tryd.ntmps20
    go_wp2
    go_ret
    exact ⟨by rw [HE.out]; rfl, alloc_below _ _⟩
theorem rinf_21 (nad s : Int) (m ans : Bool) (l : List UInt8) (v : Value) (w : World) (hv : SL w w.heap.size v l) : Calls Tryd.prog 20 #[Bk.val ⟨nad, 2, s, m, 1, ans, l⟩ v] w fun e w' => e = .returned (.int .i64 (numE l 254)) ∧ Below w.heap.size w w' := by
  obtain ⟨A, c, rfl, k1, k2, k3⟩ := hv
  simp only [Bk.val]
  unfold maxLen at k2
  by_cases h : l.length = 1
  · obtain ⟨b, o, rfl, hb, hc⟩ := k3 (by omega)
    have g0 : w.cell? ⟨b, o, none⟩ = some (.int .u8 ((l.getD 0 0).toNat : Int)) := hc 0 (by omega)
    have hx := (l.getD 0 0).toNat_lt
    have HE0 : numE l 254 = if 1 ≤ (l.getD 0 0).toNat ∧ (l.getD 0 0).toNat ≤ 254 then 0 else 4 := by unfold numE; simp [h]
    have g1 : (w.alloc (.cells #[.int .i64 nad, .int .i64 2, .int .i64 s, .bool m, .int .i64 1, .bool ans, .slice (some ⟨b, o, none⟩) 1 c] 24)).cell? ⟨b, o, none⟩ = some (.int .u8 ((l.getD 0 0).toNat : Int)) := ((alloc_below w _).cell (p := ⟨b, o, none⟩) hb).trans g0
    clear hc k3 g0
    generalize l.getD 0 0 = x at *
    rw [h] at k1
    rw [h]
    clear h
    by_cases h0 : x.toNat = 0
    · have HE : Hid (numE l 254 = 4) := by show _ = _; rw [HE0, if_neg (by omega)]
      have q0 : ((x.toNat : Int) == 0) = true := by rw [beq_iff_eq]; omega
      clear HE0 h0
      go_enter Tryd.func20, Tryd.ntmps20
      go_wp2
      go_ret
      exact ⟨by rw [HE.out]; rfl, alloc_below _ _⟩

    · by_cases hx : x.toNat = 255
      · have HE : Hid (numE l 254 = 4) := by show _ = _; rw [HE0, if_neg (by omega)]
        have q1 : ((x.toNat : Int) == 0) = false := by rw [beq_eq_false_iff_ne]; omega
        have q2 : ((x.toNat : Int) == 255) = true := by rw [beq_iff_eq]; omega
        clear HE0 hx h0
        go_enter Tryd.func20, Tryd.ntmps20
        go_wp2
        go_ret
        exact ⟨by rw [HE.out]; rfl, alloc_below _ _⟩
      · have HE : Hid (numE l 254 = 0) := by show _ = _; rw [HE0, if_pos (by omega)]
        have q1 : ((x.toNat : Int) == 0) = false := by rw [beq_eq_false_iff_ne]; omega
        have q2 : ((x.toNat : Int) == 255) = false := by rw [beq_eq_false_iff_ne]; omega
        clear HE0 hx h0
        go_enter Tryd.func20, Tryd.ntmps20
        go_wp2
        go_ret
        exact ⟨by rw [HE.out]; rfl, alloc_below _ _⟩
  · have HE : Hid (numE l 254 = 4) := by show _ = _; unfold numE; rw [if_neg (by omega)]
    have q0 : ((l.length : Int) == 1) = false := by rw [beq_eq_false_iff_ne]; omega
    have q1 : ((l.length : Int) != 1) = true := by rw [bne_iff_ne]; omega
    clear h k3
    go_enter Tryd.func20, Tryd.ntmps20
    go_wp2
    go_ret
    exact ⟨by rw [HE.out]; rfl, alloc_below _ _⟩
theorem rinf_23 (nad s : Int) (m ans : Bool) (l : List UInt8) (v : Value) (w : World) (hv : SL w w.heap.size v l) : Calls Tryd.prog 20 #[Bk.val ⟨nad, 2, s, m, 3, ans, l⟩ v] w fun e w' => e = .returned (.int .i64 (numE l 255)) ∧ Below w.heap.size w w' := by
  obtain ⟨A, c, rfl, k1, k2, k3⟩ := hv
  simp only [Bk.val]
  unfold maxLen at k2
  by_cases h : l.length = 1
  · obtain ⟨b, o, rfl, hb, hc⟩ := k3 (by omega)
    have g0 : w.cell? ⟨b, o, none⟩ = some (.int .u8 ((l.getD 0 0).toNat : Int)) := hc 0 (by omega)
    have hx := (l.getD 0 0).toNat_lt
    have HE0 : numE l 255 = if 1 ≤ (l.getD 0 0).toNat ∧ (l.getD 0 0).toNat ≤ 255 then 0 else 4 := by unfold numE; simp [h]
    have g1 : (w.alloc (.cells #[.int .i64 nad, .int .i64 2, .int .i64 s, .bool m, .int .i64 3, .bool ans, .slice (some ⟨b, o, none⟩) 1 c] 24)).cell? ⟨b, o, none⟩ = some (.int .u8 ((l.getD 0 0).toNat : Int)) := ((alloc_below w _).cell (p := ⟨b, o, none⟩) hb).trans g0
    clear hc k3 g0
    generalize l.getD 0 0 = x at *
    rw [h] at k1
    rw [h]
    clear h
    by_cases h0 : x.toNat = 0
    · have HE : Hid (numE l 255 = 4) := by show _ = _; rw [HE0, if_neg (by omega)]
      have q0 : ((x.toNat : Int) == 0) = true := by rw [beq_iff_eq]; omega
      clear HE0 h0
      go_enter Tryd.func20, Tryd.ntmps20
      go_wp2
      go_ret
      exact ⟨by rw [HE.out]; rfl, alloc_below _ _⟩
    · have HE : Hid (numE l 255 = 0) := by show _ = _; rw [HE0, if_pos (by omega)]
      have q1 : ((x.toNat : Int) == 0) = false := by rw [beq_eq_false_iff_ne]; omega
      clear HE0 h0
      go_enter Tryd.func20, Tryd.ntmps20
      go_wp2
      go_ret
      exact ⟨by rw [HE.out]; rfl, alloc_below _ _⟩
  · have HE : Hid (numE l 255 = 4) := by show _ = _; unfold numE; rw [if_neg (by omega)]
    have q0 : ((l.length : Int) == 1) = false := by rw [beq_eq_false_iff_ne]; omega
    have q1 : ((l.length : Int) != 1) = true := by rw [bne_iff_ne]; omega
    clear h k3
    go_enter Tryd.func20, Tryd.ntmps20
    go_wp2
    go_ret
    exact ⟨by rw [HE.out]; rfl, alloc_below _ _⟩

set_option maxRecDepth 100000 in
set_option maxHeartbeats 3200000 in
theorem rchk_0 (nad s code : Int) (m ans : Bool) (l : List UInt8) (v : Value) (w : World) (hv : SL w w.heap.size v l) : Calls Tryd.prog 12 #[Bk.val ⟨nad, 0, s, m, code, ans, l⟩ v] w fun e w' => e = .returned (.int .i64 (chkB ⟨nad, 0, s, m, code, ans, l⟩)) ∧ Below w.heap.size w w' := by
  have HV := Lib.hid hv
  obtain ⟨A, c, rfl, k1, k2, k3⟩ := hv
  clear k3
  have HB : chkB ⟨nad, 0, s, m, code, ans, l⟩ = chkK ⟨nad, 0, s, m, code, ans, l⟩ (.inf s m) := by simp [chkB]
  obtain ⟨E, hE⟩ : ∃ E, E = chkB ⟨nad, 0, s, m, code, ans, l⟩ := ⟨_, rfl⟩
  rw [← hE] at HB ⊢
  clear hE
  by_cases n0 : nad < 0
  · have d0 : decide (nad < 0) = true := by simpa using n0
    have hn := okNad_lo n0
    clear n0
    simp only [Bk.val]
    have HE : Hid (E = 2) := by show _ = _; rw [HB]; exact chkK_2 (and_no (.inl hn))
    clear HB
    go_enter Tryd.func12, Tryd.ntmps12
    go_wp2_with fail
    go_ret
    exact ⟨by rw [HE.out]; rfl, alloc_below _ _⟩
  by_cases n1 : 254 < nad
  · have d0 : decide (nad < 0) = false := by simpa using n0
    have d1 : decide (254 < nad) = true := by simpa using n1
    have hn := okNad_hi n1
    clear n0 n1
    simp only [Bk.val]
    have HE : Hid (E = 2) := by show _ = _; rw [HB]; exact chkK_2 (and_no (.inl hn))
    clear HB
    go_enter Tryd.func12, Tryd.ntmps12
    go_wp2_with fail
    go_ret
    exact ⟨by rw [HE.out]; rfl, alloc_below _ _⟩
  have d0 : decide (nad < 0) = false := by simpa using n0
  have d1 : decide (254 < nad) = false := by simpa using n1
  have hn := Lib.hid (okNad_in n0 n1)
  clear n0 n1
  cases hs : isBit s
  · have hs' := hs
    simp only [isBit, Bool.or_eq_false_iff] at hs'
    obtain ⟨s0, s1⟩ := hs'
    have s2 : (s != 0) = true := by simp [bne, s0]
    have s3 : (s != 1) = true := by simp [bne, s1]
    have HS := Lib.hid hs
    clear hs
    simp only [Bk.val]
    have HE : Hid (E = 2) := by show _ = _; rw [HB]; exact chkK_2 (and_no (.inr HS.out))
    clear HB
    go_enter Tryd.func12, Tryd.ntmps12
    go_wp2_with fail
    go_ret
    exact ⟨by rw [HE.out]; rfl, alloc_below _ _⟩
  have HS := Lib.hid hs
  have hcs := bit_cases hs
  clear hs
  cases hc : (code == 0)
  · have c2 : (code != 0) = true := by simp [bne, hc]
    rcases hcs with rfl | rfl
    all_goals
      simp only [Bk.val]
      have HE : Hid (E = 4) := by show _ = _; rw [HB]; exact chkK_4 hn.out HS.out (by simp [clean]; intro h; simp [h] at hc)
      clear HB
      go_enter Tryd.func12, Tryd.ntmps12
      go_wp2_with fail
      go_ret
      exact ⟨by rw [HE.out]; rfl, alloc_below _ _⟩
  · obtain rfl : code = 0 := by simpa using hc
    clear hc
    cases ans
    · rcases hcs with rfl | rfl
      · have HE : Hid (E = (Kd.inf 0 m).infE l) := by show _ = _; rw [HB]; exact chkK_0 hn.out HS.out rfl
        have HQ := Lib.hid (fun (W : World) (hW : Below w.heap.size w W) => rinf_0 nad 0 0 m false l _ W (HV.out.on hW))
        simp only [Bk.val] at HQ ⊢
        clear HB
        go_enter Tryd.func12, Tryd.ntmps12
        go_wp2_with fail
        refine (HQ.out _ (alloc_below _ _)).mono ?_
        rintro e w1 ⟨rfl, hb1⟩
        go_wp2_with fail
        go_ret
        exact ⟨by rw [HE.out]; rfl, below_alloc2 hb1⟩
      · have HE : Hid (E = (Kd.inf 1 m).infE l) := by show _ = _; rw [HB]; exact chkK_0 hn.out HS.out rfl
        have HQ := Lib.hid (fun (W : World) (hW : Below w.heap.size w W) => rinf_0 nad 1 0 m false l _ W (HV.out.on hW))
        simp only [Bk.val] at HQ ⊢
        clear HB
        go_enter Tryd.func12, Tryd.ntmps12
        go_wp2_with fail
        refine (HQ.out _ (alloc_below _ _)).mono ?_
        rintro e w1 ⟨rfl, hb1⟩
        go_wp2_with fail
        go_ret
        exact ⟨by rw [HE.out]; rfl, below_alloc2 hb1⟩
    · rcases hcs with rfl | rfl
      all_goals
        simp only [Bk.val]
        have HE : Hid (E = 4) := by show _ = _; rw [HB]; exact chkK_4 hn.out HS.out rfl
        clear HB
        go_enter Tryd.func12, Tryd.ntmps12
        go_wp2_with fail
        go_ret
        exact ⟨by rw [HE.out]; rfl, alloc_below _ _⟩

set_option maxRecDepth 100000 in
set_option maxHeartbeats 3200000 in
theorem rchk_1 (nad s code : Int) (m ans : Bool) (l : List UInt8) (v : Value) (w : World) (hv : SL w w.heap.size v l) : Calls Tryd.prog 12 #[Bk.val ⟨nad, 1, s, m, code, ans, l⟩ v] w fun e w' => e = .returned (.int .i64 (chkB ⟨nad, 1, s, m, code, ans, l⟩)) ∧ Below w.heap.size w w' := by
  have HV := Lib.hid hv
  obtain ⟨A, c, rfl, k1, k2, k3⟩ := hv
  clear k3
  have HB : chkB ⟨nad, 1, s, m, code, ans, l⟩ = chkK ⟨nad, 1, s, m, code, ans, l⟩ (.rdy s code) := by simp [chkB]
  obtain ⟨E, hE⟩ : ∃ E, E = chkB ⟨nad, 1, s, m, code, ans, l⟩ := ⟨_, rfl⟩
  rw [← hE] at HB ⊢
  clear hE
  by_cases n0 : nad < 0
  · have d0 : decide (nad < 0) = true := by simpa using n0
    have hn := okNad_lo n0
    clear n0
    simp only [Bk.val]
    have HE : Hid (E = 2) := by show _ = _; rw [HB]; exact chkK_2 (and_no (.inl hn))
    clear HB
    go_enter Tryd.func12, Tryd.ntmps12
    go_wp2_with fail
    go_ret
    exact ⟨by rw [HE.out]; rfl, alloc_below _ _⟩
  by_cases n1 : 254 < nad
  · have d0 : decide (nad < 0) = false := by simpa using n0
    have d1 : decide (254 < nad) = true := by simpa using n1
    have hn := okNad_hi n1
    clear n0 n1
    simp only [Bk.val]
    have HE : Hid (E = 2) := by show _ = _; rw [HB]; exact chkK_2 (and_no (.inl hn))
    clear HB
    go_enter Tryd.func12, Tryd.ntmps12
    go_wp2_with fail
    go_ret
    exact ⟨by rw [HE.out]; rfl, alloc_below _ _⟩
  have d0 : decide (nad < 0) = false := by simpa using n0
  have d1 : decide (254 < nad) = false := by simpa using n1
  have hn := Lib.hid (okNad_in n0 n1)
  clear n0 n1
  cases hs : isBit s
  · have hs' := hs
    simp only [isBit, Bool.or_eq_false_iff] at hs'
    obtain ⟨s0, s1⟩ := hs'
    have s2 : (s != 0) = true := by simp [bne, s0]
    have s3 : (s != 1) = true := by simp [bne, s1]
    have HS := Lib.hid hs
    clear hs
    simp only [Bk.val]
    have HE : Hid (E = 2) := by show _ = _; rw [HB]; exact chkK_2 (and_no (.inr (by simp only [Kd.rng]; rw [HS.out]; rfl)))
    clear HB
    go_enter Tryd.func12, Tryd.ntmps12
    go_wp2_with fail
    go_ret
    exact ⟨by rw [HE.out]; rfl, alloc_below _ _⟩
  have hcs := bit_cases hs
  by_cases t0 : code < 0
  · have e0 : decide (code < 0) = true := by simpa using t0
    have hr : isRc code = false := by simp [isRc]; omega
    have HS : Hid ((Kd.rdy s code).rng = false) := by show _ = _; simp only [Kd.rng]; rw [hr, Bool.and_false]
    clear t0 hs hr
    rcases hcs with rfl | rfl
    all_goals
      simp only [Bk.val]
      have HE : Hid (E = 2) := by show _ = _; rw [HB]; exact chkK_2 (and_no (.inr HS.out))
      clear HB
      go_enter Tryd.func12, Tryd.ntmps12
      go_wp2_with fail
      go_ret
      exact ⟨by rw [HE.out]; rfl, alloc_below _ _⟩
  by_cases t1 : 2 < code
  · have e0 : decide (code < 0) = false := by simpa using t0
    have e1 : decide (2 < code) = true := by simpa using t1
    have hr : isRc code = false := by simp [isRc]; omega
    have HS : Hid ((Kd.rdy s code).rng = false) := by show _ = _; simp only [Kd.rng]; rw [hr, Bool.and_false]
    clear t0 t1 hs hr
    rcases hcs with rfl | rfl
    all_goals
      simp only [Bk.val]
      have HE : Hid (E = 2) := by show _ = _; rw [HB]; exact chkK_2 (and_no (.inr HS.out))
      clear HB
      go_enter Tryd.func12, Tryd.ntmps12
      go_wp2_with fail
      go_ret
      exact ⟨by rw [HE.out]; rfl, alloc_below _ _⟩
  have e0 : decide (code < 0) = false := by simpa using t0
  have e1 : decide (2 < code) = false := by simpa using t1
  have hr : isRc code = true := by simp [isRc]; omega
  have HS : Hid ((Kd.rdy s code).rng = true) := by show _ = _; simp only [Kd.rng]; rw [hr, hs]; rfl
  have e2 : (code == 0) = true ∨ (code == 0) = false := by cases (code == 0) <;> simp
  clear t0 t1 hs hr
  cases m
  · cases ans
    · clear e2
      rcases hcs with rfl | rfl
      · have HE : Hid (E = emptyE l) := by show _ = _; rw [HB]; exact chkK_0 hn.out HS.out rfl
        have HQ := Lib.hid (fun (W : World) (hW : Below w.heap.size w W) => rinf_1 nad 0 code false false l _ W (HV.out.on hW))
        simp only [Bk.val] at HQ ⊢
        clear HB
        go_enter Tryd.func12, Tryd.ntmps12
        go_wp2_with fail
        refine (HQ.out _ (alloc_below _ _)).mono ?_
        rintro e w1 ⟨rfl, hb1⟩
        go_wp2_with fail
        go_ret
        exact ⟨by rw [HE.out]; rfl, below_alloc2 hb1⟩
      · have HE : Hid (E = emptyE l) := by show _ = _; rw [HB]; exact chkK_0 hn.out HS.out rfl
        have HQ := Lib.hid (fun (W : World) (hW : Below w.heap.size w W) => rinf_1 nad 1 code false false l _ W (HV.out.on hW))
        simp only [Bk.val] at HQ ⊢
        clear HB
        go_enter Tryd.func12, Tryd.ntmps12
        go_wp2_with fail
        refine (HQ.out _ (alloc_below _ _)).mono ?_
        rintro e w1 ⟨rfl, hb1⟩
        go_wp2_with fail
        go_ret
        exact ⟨by rw [HE.out]; rfl, below_alloc2 hb1⟩
    · rcases hcs with rfl | rfl
      all_goals
        clear e2
        simp only [Bk.val]
        have HE : Hid (E = 4) := by show _ = _; rw [HB]; exact chkK_4 hn.out HS.out rfl
        clear HB
        go_enter Tryd.func12, Tryd.ntmps12
        go_wp2_with fail
        go_ret
        exact ⟨by rw [HE.out]; rfl, alloc_below _ _⟩
  · rcases hcs with rfl | rfl
    all_goals
      clear e2
      simp only [Bk.val]
      have HE : Hid (E = 4) := by show _ = _; rw [HB]; exact chkK_4 hn.out HS.out rfl
      clear HB
      go_enter Tryd.func12, Tryd.ntmps12
      go_wp2_with fail
      go_ret
      exact ⟨by rw [HE.out]; rfl, alloc_below _ _⟩

set_option maxRecDepth 100000 in
set_option maxHeartbeats 3200000 in
theorem rchk_2 (nad s code : Int) (m ans : Bool) (l : List UInt8) (v : Value) (w : World) (hv : SL w w.heap.size v l) : Calls Tryd.prog 12 #[Bk.val ⟨nad, 2, s, m, code, ans, l⟩ v] w fun e w' => e = .returned (.int .i64 (chkB ⟨nad, 2, s, m, code, ans, l⟩)) ∧ Below w.heap.size w w' := by
  have HV := Lib.hid hv
  obtain ⟨A, c, rfl, k1, k2, k3⟩ := hv
  clear k3
  have HB : chkB ⟨nad, 2, s, m, code, ans, l⟩ = chkK ⟨nad, 2, s, m, code, ans, l⟩ (.sup code ans) := by simp [chkB]
  obtain ⟨E, hE⟩ : ∃ E, E = chkB ⟨nad, 2, s, m, code, ans, l⟩ := ⟨_, rfl⟩
  rw [← hE] at HB ⊢
  clear hE
  by_cases n0 : nad < 0
  · have d0 : decide (nad < 0) = true := by simpa using n0
    have hn := okNad_lo n0
    clear n0
    simp only [Bk.val]
    have HE : Hid (E = 2) := by show _ = _; rw [HB]; exact chkK_2 (and_no (.inl hn))
    clear HB
    go_enter Tryd.func12, Tryd.ntmps12
    go_wp2_with fail
    go_ret
    exact ⟨by rw [HE.out]; rfl, alloc_below _ _⟩
  by_cases n1 : 254 < nad
  · have d0 : decide (nad < 0) = false := by simpa using n0
    have d1 : decide (254 < nad) = true := by simpa using n1
    have hn := okNad_hi n1
    clear n0 n1
    simp only [Bk.val]
    have HE : Hid (E = 2) := by show _ = _; rw [HB]; exact chkK_2 (and_no (.inl hn))
    clear HB
    go_enter Tryd.func12, Tryd.ntmps12
    go_wp2_with fail
    go_ret
    exact ⟨by rw [HE.out]; rfl, alloc_below _ _⟩
  have d0 : decide (nad < 0) = false := by simpa using n0
  have d1 : decide (254 < nad) = false := by simpa using n1
  have hn := Lib.hid (okNad_in n0 n1)
  clear n0 n1
  by_cases t0 : code < 0
  · have e0 : decide (code < 0) = true := by simpa using t0
    have hr : isSc code = false := by simp [isSc]; omega
    have HS : Hid ((Kd.sup code ans).rng = false) := hr
    clear t0 hr
    simp only [Bk.val]
    have HE : Hid (E = 2) := by show _ = _; rw [HB]; exact chkK_2 (and_no (.inr HS.out))
    clear HB
    go_enter Tryd.func12, Tryd.ntmps12
    go_wp2_with fail
    go_ret
    exact ⟨by rw [HE.out]; rfl, alloc_below _ _⟩
  by_cases t1 : 3 < code
  · have e0 : decide (code < 0) = false := by simpa using t0
    have e1 : decide (3 < code) = true := by simpa using t1
    have hr : isSc code = false := by simp [isSc]; omega
    have HS : Hid ((Kd.sup code ans).rng = false) := hr
    clear t0 t1 hr
    simp only [Bk.val]
    have HE : Hid (E = 2) := by show _ = _; rw [HB]; exact chkK_2 (and_no (.inr HS.out))
    clear HB
    go_enter Tryd.func12, Tryd.ntmps12
    go_wp2_with fail
    go_ret
    exact ⟨by rw [HE.out]; rfl, alloc_below _ _⟩
  have hr : isSc code = true := by simp [isSc]; omega
  have HS : Hid ((Kd.sup code ans).rng = true) := hr
  have hcc := sc_cases hr
  clear t0 t1 hr
  cases hs : (s == 0)
  · have s2 : (s != 0) = true := by simp [bne, hs]
    have HC : Hid (clean ⟨nad, 2, s, m, code, ans, l⟩ (.sup code ans) = false) := by show _ = _; simp only [clean]; rw [hs]; rfl
    rcases hcc with rfl | rfl | rfl | rfl
    all_goals
      simp only [Bk.val]
      have HE : Hid (E = 4) := by show _ = _; rw [HB]; exact chkK_4 hn.out HS.out HC.out
      clear HB
      go_enter Tryd.func12, Tryd.ntmps12
      go_wp2_with fail
      go_ret
      exact ⟨by rw [HE.out]; rfl, alloc_below _ _⟩
  obtain rfl : s = 0 := by simpa using hs
  clear hs
  cases m
  · rcases hcc with rfl | rfl | rfl | rfl
    · have HE : Hid (E = emptyE l) := by show _ = _; rw [HB]; exact chkK_0 hn.out HS.out rfl
      have HQ := Lib.hid (fun (W : World) (hW : Below w.heap.size w W) => rinf_20 nad 0 false ans l _ W (HV.out.on hW))
      simp only [Bk.val] at HQ ⊢
      clear HB
      go_enter Tryd.func12, Tryd.ntmps12
      go_wp2_with fail
      refine (HQ.out _ (alloc_below _ _)).mono ?_
      rintro e w1 ⟨rfl, hb1⟩
      go_wp2_with fail
      go_ret
      exact ⟨by rw [HE.out]; rfl, below_alloc2 hb1⟩
    · have HE : Hid (E = numE l 254) := by show _ = _; rw [HB]; exact chkK_0 hn.out HS.out rfl
      have HQ := Lib.hid (fun (W : World) (hW : Below w.heap.size w W) => rinf_21 nad 0 false ans l _ W (HV.out.on hW))
      simp only [Bk.val] at HQ ⊢
      clear HB
      go_enter Tryd.func12, Tryd.ntmps12
      go_wp2_with fail
      refine (HQ.out _ (alloc_below _ _)).mono ?_
      rintro e w1 ⟨rfl, hb1⟩
      go_wp2_with fail
      go_ret
      exact ⟨by rw [HE.out]; rfl, below_alloc2 hb1⟩
    · have HE : Hid (E = emptyE l) := by show _ = _; rw [HB]; exact chkK_0 hn.out HS.out rfl
      have HQ := Lib.hid (fun (W : World) (hW : Below w.heap.size w W) => rinf_22 nad 0 false ans l _ W (HV.out.on hW))
      simp only [Bk.val] at HQ ⊢
      clear HB
      go_enter Tryd.func12, Tryd.ntmps12
      go_wp2_with fail
      refine (HQ.out _ (alloc_below _ _)).mono ?_
      rintro e w1 ⟨rfl, hb1⟩
      go_wp2_with fail
      go_ret
      exact ⟨by rw [HE.out]; rfl, below_alloc2 hb1⟩
    · have HE : Hid (E = numE l 255) := by show _ = _; rw [HB]; exact chkK_0 hn.out HS.out rfl
      have HQ := Lib.hid (fun (W : World) (hW : Below w.heap.size w W) => rinf_23 nad 0 false ans l _ W (HV.out.on hW))
      simp only [Bk.val] at HQ ⊢
      clear HB
      go_enter Tryd.func12, Tryd.ntmps12
      go_wp2_with fail
      refine (HQ.out _ (alloc_below _ _)).mono ?_
      rintro e w1 ⟨rfl, hb1⟩
      go_wp2_with fail
      go_ret
      exact ⟨by rw [HE.out]; rfl, below_alloc2 hb1⟩
  · rcases hcc with rfl | rfl | rfl | rfl
    all_goals
      simp only [Bk.val]
      have HE : Hid (E = 4) := by show _ = _; rw [HB]; exact chkK_4 hn.out HS.out rfl
      clear HB
      go_enter Tryd.func12, Tryd.ntmps12
      go_wp2_with fail
      go_ret
      exact ⟨by rw [HE.out]; rfl, alloc_below _ _⟩

theorem rchk_no (b : Bk) (v : Value) (w : World) (h0 : b.kind ≠ 0) (h1 : b.kind ≠ 1) (h2 : b.kind ≠ 2) :
    Calls Tryd.prog 12 #[b.val v] w fun e w' => e = .returned (.int .i64 1) ∧ Below w.heap.size w w' := by
  obtain ⟨nad, kind, s, m, code, ans, l⟩ := b
  simp only at h0 h1 h2
  simp only [Bk.val]
  by_cases n0 : kind < 0
  · have d0 : decide (kind < 0) = true := by simpa using n0
    clear n0 h0 h1 h2
    go_enter Tryd.func12, Tryd.ntmps12
    go_wp2_with fail
    go_ret
    exact ⟨rfl, alloc_below _ _⟩
  · have d0 : decide (kind < 0) = false := by simpa using n0
    have d1 : decide (2 < kind) = true := by simp; omega
    clear n0 h0 h1 h2
    go_enter Tryd.func12, Tryd.ntmps12
    go_wp2_with fail
    go_ret
    exact ⟨rfl, alloc_below _ _⟩
/-- Check, of the reference. -/
theorem rchk_any (b : Bk) (v : Value) (w : World) (hv : SL w w.heap.size v b.inf) :
    Calls Tryd.prog 12 #[b.val v] w fun e w' => e = .returned (.int .i64 (chkB b)) ∧ Below w.heap.size w w' := by
  by_cases h0 : b.kind = 0
  · obtain ⟨nad, kind, s, m, code, ans, l⟩ := b
    obtain rfl : kind = 0 := h0
    exact rchk_0 nad s code m ans l v w hv
  · by_cases h1 : b.kind = 1
    · obtain ⟨nad, kind, s, m, code, ans, l⟩ := b
      obtain rfl : kind = 1 := h1
      exact rchk_1 nad s code m ans l v w hv
    · by_cases h2 : b.kind = 2
      · obtain ⟨nad, kind, s, m, code, ans, l⟩ := b
        obtain rfl : kind = 2 := h2
        exact rchk_2 nad s code m ans l v w hv
      · have e : chkB b = 1 := by rw [chkB, if_neg h0, if_neg h1, if_neg h2]
        rw [e]
        exact rchk_no b v w h0 h1 h2
end Go.Proofs.YtijiggfeamibkaaDoor
