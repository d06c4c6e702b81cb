/-
  Layer 20: the laws on chaining and on MACs.
-/
import Derived.Test.YtndkkkkfgihemaaMoj
namespace Go.Proofs.Ytndkkkkfgihemaa
set_option linter.unusedVariables false
set_option linter.unusedSimpArgs false
open Go.RowKit

def fewB (ls : List (List UInt8)) : Bool := ls.all fun l => decide (l.length ≤ 1000)
theorem few_lit (vs : List Value) (ls : List (List UInt8)) (w : World) (o : Obj) (ho : o = Obj.cells vs.toArray 22) (n : Nat) (hn : ls.length = n) (hlen : vs.length = ls.length) (h1 : ls.length ≤ 1000)
    (hv : ∀ k, k < ls.length → SL w w.heap.size (vs.getD k (.slice none 0 0)) (ls.getD k [])) :
    Calls Try.prog 22 #[.slice (some ⟨w.heap.size, 0, none⟩) n n] (w.alloc o) fun e w' => e = .returned (.bool (fewB ls)) ∧ Below w.heap.size w w' := by
  subst ho hn
  have hb := (Below.refl w.heap.size w).alloc (Nat.le_refl _) (Obj.cells vs.toArray 22)
  exact (few_any ls _ _ _ (LL.lit w.heap.size vs ls hlen h1 (heap_alloc_new w _) (fun k hk => (hv k hk).on hb))).mono fun e w' ⟨h1, n, h2⟩ => ⟨h1, by rw [h2]; exact below_drewN hb n⟩
theorem few1 (a : List UInt8) (va : Value) (w : World) (o : Obj) (ho : o = Obj.cells #[va] 22) (ha : SL w w.heap.size va a) :
    Calls Try.prog 22 #[.slice (some ⟨w.heap.size, 0, none⟩) 1 1] (w.alloc o) fun e w' => e = .returned (.bool (fewB [a])) ∧ Below w.heap.size w w' :=
  few_lit [va] [a] w o ho 1 rfl rfl (by simp) fun k hk => by
    have : k = 0 := by simp at hk; omega
    subst this
    exact ha
theorem few2 (a b : List UInt8) (va vb : Value) (w : World) (o : Obj) (ho : o = Obj.cells #[va, vb] 22) (ha : SL w w.heap.size va a) (hb : SL w w.heap.size vb b) :
    Calls Try.prog 22 #[.slice (some ⟨w.heap.size, 0, none⟩) 2 2] (w.alloc o) fun e w' => e = .returned (.bool (fewB [a, b])) ∧ Below w.heap.size w w' :=
  few_lit [va, vb] [a, b] w o ho 2 rfl rfl (by simp) fun k hk => by
    have : k = 0 ∨ k = 1 := by simp at hk; omega
    rcases this with rfl | rfl
    · exact ha
    · exact hb
theorem few3 (a b c : List UInt8) (va vb vc : Value) (w : World) (o : Obj) (ho : o = Obj.cells #[va, vb, vc] 22) (ha : SL w w.heap.size va a) (hb : SL w w.heap.size vb b) (hc : SL w w.heap.size vc c) :
    Calls Try.prog 22 #[.slice (some ⟨w.heap.size, 0, none⟩) 3 3] (w.alloc o) fun e w' => e = .returned (.bool (fewB [a, b, c])) ∧ Below w.heap.size w w' :=
  few_lit [va, vb, vc] [a, b, c] w o ho 3 rfl rfl (by simp) fun k hk => by
    have : k = 0 ∨ k = 1 ∨ k = 2 := by simp at hk; omega
    rcases this with rfl | rfl | rfl
    · exact ha
    · exact hb
    · exact hc
theorem few4 (a b c d : List UInt8) (va vb vc vd : Value) (w : World) (o : Obj) (ho : o = Obj.cells #[va, vb, vc, vd] 22) (ha : SL w w.heap.size va a) (hb : SL w w.heap.size vb b) (hc : SL w w.heap.size vc c) (hd : SL w w.heap.size vd d) :
    Calls Try.prog 22 #[.slice (some ⟨w.heap.size, 0, none⟩) 4 4] (w.alloc o) fun e w' => e = .returned (.bool (fewB [a, b, c, d])) ∧ Below w.heap.size w w' :=
  few_lit [va, vb, vc, vd] [a, b, c, d] w o ho 4 rfl rfl (by simp) fun k hk => by
    have : k = 0 ∨ k = 1 ∨ k = 2 ∨ k = 3 := by simp at hk; omega
    rcases this with rfl | rfl | rfl | rfl
    · exact ha
    · exact hb
    · exact hc
    · exact hd

set_option maxRecDepth 100000 in
set_option maxHeartbeats 3200000 in
theorem law_mencrypts (k iv d : List UInt8) (v u t : Value) (w : World) (hk : SL w w.heap.size v k) (hi : SL w w.heap.size u iv) (hd : SL w w.heap.size t d) :
    Calls Try.prog 7 #[v, u, t] w fun e w' => e = .returned (.bool true) ∧ Below w.heap.size w w' := by
  have HW := Lib.hid works_any
  have HF := Lib.hid (fun o ho => few3 k iv d v u t w o ho hk hi hd)
  have hd9 : fewB [k, iv, d] = true → d.length ≤ 100000 := fun h => by
    simp [fewB] at h
    omega
  have H1 := Lib.hid (fun W (h : Below w.heap.size w W) (hl : d.length ≤ 100000) => (pcbe_any k iv d v u t W (hk.on h) (hi.on h) (hd.on h) hl).mono fun e w' (h : _) => (show CiW (if fitC k iv d = 0 then cbE k iv d else []) (fitC k iv d) W e w' from h.to (Below.refl _ _)))
  have H2 := Lib.hid (fun W (h : Below w.heap.size w W) (hl : d.length ≤ 100000) => (rcbe_any k iv d v u t W (hk.on h) (hi.on h) (hd.on h) hl).mono fun e w' (h : _) => (show CiW (if fitC k iv d = 0 then cbE k iv d else []) (fitC k iv d) W e w' from h.to (Below.refl _ _)))
  generalize (if fitC k iv d = 0 then cbE k iv d else []) = r at *
  generalize fitC k iv d = E at *
  obtain ⟨A1, c1, rfl, h11, h12, h13⟩ := hk
  obtain ⟨A2, c2, rfl, h21, h22, h23⟩ := hi
  obtain ⟨A3, c3, rfl, h31, h32, h33⟩ := hd
  clear h13 h23 h33
  generalize fewB [k, iv, d] = q at *
  have H9 := Lib.hid hd9
  clear hd9
  go_enter Try.func7, Try.ntmps7
  go_wp2_with fail
  refine (HF.out _ rfl).mono ?_
  rintro e w1 ⟨rfl, hb1⟩
  cases q
  · go_wp2_with fail
    refine (HW.out _).mono ?_
    rintro e w2 ⟨rfl, hb2⟩
    go_wp2
    go_ret
    exact ⟨rfl, after hb1 hb2⟩
  · go_wp2_with fail
    refine (H1.out _ hb1 (H9.out (by first | exact trivial | rfl))).mono ?_
    rintro e w2 ⟨v2, rfl, hv2, hb2⟩
    have b2 := after hb1 hb2
    go_wp2_with fail
    refine (H2.out _ b2 (H9.out (by first | exact trivial | rfl))).mono ?_
    rintro e w3 ⟨v3, rfl, hv3, hb3⟩
    have b3 := after b2 hb3
    have C2 := (hv2.on hb3).convert
    have C3 := hv3.convert
    go_wp2_with fail
    refine (HW.out _).mono ?_
    rintro e w4 ⟨rfl, hb4⟩
    go_wp2
    go_ret
    exact ⟨rfl, after b3 hb4⟩
set_option maxRecDepth 100000 in
set_option maxHeartbeats 3200000 in
theorem law_mdecrypts (k iv d : List UInt8) (v u t : Value) (w : World) (hk : SL w w.heap.size v k) (hi : SL w w.heap.size u iv) (hd : SL w w.heap.size t d) :
    Calls Try.prog 8 #[v, u, t] w fun e w' => e = .returned (.bool true) ∧ Below w.heap.size w w' := by
  have HW := Lib.hid works_any
  have HF := Lib.hid (fun o ho => few3 k iv d v u t w o ho hk hi hd)
  have hd9 : fewB [k, iv, d] = true → d.length ≤ 100000 := fun h => by
    simp [fewB] at h
    omega
  have H1 := Lib.hid (fun W (h : Below w.heap.size w W) (hl : d.length ≤ 100000) => (pcbd_any k iv d v u t W (hk.on h) (hi.on h) (hd.on h) hl).mono fun e w' (h : _) => (show CiW (if fitC k iv d = 0 then cbD k iv d else []) (fitC k iv d) W e w' from h.to (Below.refl _ _)))
  have H2 := Lib.hid (fun W (h : Below w.heap.size w W) (hl : d.length ≤ 100000) => (rcbd_any k iv d v u t W (hk.on h) (hi.on h) (hd.on h) hl).mono fun e w' (h : _) => (show CiW (if fitC k iv d = 0 then cbD k iv d else []) (fitC k iv d) W e w' from h.to (Below.refl _ _)))
  generalize (if fitC k iv d = 0 then cbD k iv d else []) = r at *
  generalize fitC k iv d = E at *
  obtain ⟨A1, c1, rfl, h11, h12, h13⟩ := hk
  obtain ⟨A2, c2, rfl, h21, h22, h23⟩ := hi
  obtain ⟨A3, c3, rfl, h31, h32, h33⟩ := hd
  clear h13 h23 h33
  generalize fewB [k, iv, d] = q at *
  have H9 := Lib.hid hd9
  clear hd9
  go_enter Try.func8, Try.ntmps8
  go_wp2_with fail
  refine (HF.out _ rfl).mono ?_
  rintro e w1 ⟨rfl, hb1⟩
  cases q
  · go_wp2_with fail
    refine (HW.out _).mono ?_
    rintro e w2 ⟨rfl, hb2⟩
    go_wp2
    go_ret
    exact ⟨rfl, after hb1 hb2⟩
  · go_wp2_with fail
    refine (H1.out _ hb1 (H9.out (by first | exact trivial | rfl))).mono ?_
    rintro e w2 ⟨v2, rfl, hv2, hb2⟩
    have b2 := after hb1 hb2
    go_wp2_with fail
    refine (H2.out _ b2 (H9.out (by first | exact trivial | rfl))).mono ?_
    rintro e w3 ⟨v3, rfl, hv3, hb3⟩
    have b3 := after b2 hb3
    have C2 := (hv2.on hb3).convert
    have C3 := hv3.convert
    go_wp2_with fail
    refine (HW.out _).mono ?_
    rintro e w4 ⟨rfl, hb4⟩
    go_wp2
    go_ret
    exact ⟨rfl, after b3 hb4⟩
set_option maxRecDepth 100000 in
set_option maxHeartbeats 3200000 in
theorem law_mmacs (k iv d : List UInt8) (v u t : Value) (w : World) (hk : SL w w.heap.size v k) (hi : SL w w.heap.size u iv) (hd : SL w w.heap.size t d) :
    Calls Try.prog 9 #[v, u, t] w fun e w' => e = .returned (.bool true) ∧ Below w.heap.size w w' := by
  have HW := Lib.hid works_any
  have HF := Lib.hid (fun o ho => few3 k iv d v u t w o ho hk hi hd)
  have hd9 : fewB [k, iv, d] = true → d.length ≤ 50000 := fun h => by
    simp [fewB] at h
    omega
  have H1 := Lib.hid (fun W (h : Below w.heap.size w W) (hl : d.length ≤ 50000) => (pmac_any k iv d v u t W (hk.on h) (hi.on h) (hd.on h) hl).mono fun e w' (h : _) => (show CiW (macM k iv d) (fitM k iv) W e w' from h))
  have H2 := Lib.hid (fun W (h : Below w.heap.size w W) (hl : d.length ≤ 50000) => (rmac_any k iv d v u t W (hk.on h) (hi.on h) (hd.on h) hl).mono fun e w' (h : _) => (show CiW (macM k iv d) (fitM k iv) W e w' from h))
  generalize (macM k iv d) = r at *
  generalize fitM k iv = E at *
  obtain ⟨A1, c1, rfl, h11, h12, h13⟩ := hk
  obtain ⟨A2, c2, rfl, h21, h22, h23⟩ := hi
  obtain ⟨A3, c3, rfl, h31, h32, h33⟩ := hd
  clear h13 h23 h33
  generalize fewB [k, iv, d] = q at *
  have H9 := Lib.hid hd9
  clear hd9
  go_enter Try.func9, Try.ntmps9
  go_wp2_with fail
  refine (HF.out _ rfl).mono ?_
  rintro e w1 ⟨rfl, hb1⟩
  cases q
  · go_wp2_with fail
    refine (HW.out _).mono ?_
    rintro e w2 ⟨rfl, hb2⟩
    go_wp2
    go_ret
    exact ⟨rfl, after hb1 hb2⟩
  · go_wp2_with fail
    refine (H1.out _ hb1 (H9.out (by first | exact trivial | rfl))).mono ?_
    rintro e w2 ⟨v2, rfl, hv2, hb2⟩
    have b2 := after hb1 hb2
    go_wp2_with fail
    refine (H2.out _ b2 (H9.out (by first | exact trivial | rfl))).mono ?_
    rintro e w3 ⟨v3, rfl, hv3, hb3⟩
    have b3 := after b2 hb3
    have C2 := (hv2.on hb3).convert
    have C3 := hv3.convert
    go_wp2_with fail
    refine (HW.out _).mono ?_
    rintro e w4 ⟨rfl, hb4⟩
    go_wp2
    go_ret
    exact ⟨rfl, after b3 hb4⟩
end Go.Proofs.Ytndkkkkfgihemaa
