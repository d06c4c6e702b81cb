/-
  The walks of Parse, of the program and of the reference.
-/
import Derived.Test.YtahnmnbjgbfeaaaDig
import Derived.Lib.OthersKept
import Derived.Laws.RangeAny
namespace Go.Proofs.Ytahnmnbjgbfeaaa
set_option linter.unusedVariables false
set_option linter.unusedSimpArgs false
open Go.RowKit

theorem OB.iter {w : World} {base I p : Nat} {v : Value} {l : List UInt8} {s : ByteArray} (h : OB w base v l) (hk : w.heap[I]? = some (.stringIter s p)) (p' : Nat) : OB (w.iterAt I s p') base v l := by
  obtain ⟨h1, h2⟩ := h
  refine ⟨h1, ?_⟩
  rcases h2 with h2 | ⟨g, cap, cur, hv, hg, hh, r⟩
  · exact .inl h2
  · refine .inr ⟨g, cap, cur, hv, hg, ?_, r⟩
    rw [Lib.iterAt_other w I g s p' (fun e => by subst e; rw [hh] at hk; cases hk), hh]

theorem ssz (s : ByteArray) : s.data.toList.length = s.size := by rw [Array.length_toList]; rfl
theorem sgd (s : ByteArray) (k : Nat) (h : k < s.size) : s[k]'h = s.data.toList.getD k 0 := by
  have h' : k < s.data.toList.length := by rw [ssz]; exact h
  rw [List.getD, List.getElem?_eq_getElem h']
  rfl

theorem st_zero (l : List UInt8) (n : Nat) : stateL l 0 n = List.replicate n 0 := by simp [stateL, pairs]
theorem or_nib (Y V : Nat) (hY : Y < 16) (hV : V < 16) (z : Int) (hz : z = ((Y * 16 : Nat) : Int)) : bits .or .u8 z (V : Int) = ((UInt8.ofNat (Y * 16 + V)).toNat : Int) := by
  subst hz
  rw [u8_or_nat _ _ (by omega) (by omega), nat_join 4 (Y * 16) V (by omega) (by omega)]
  simp
  omega

set_option maxRecDepth 100000 in
set_option maxHeartbeats 1600000 in
theorem pparse_any (s : ByteArray) (w : World) (hs : s.size ≤ 400000) (P : Ending → World → Prop)
    (hok : ∀ m, parseL s.data.toList = some m → ∀ v' w', SL w' w'.heap.size v' m → Below w.heap.size w w' → P (.returned (.tuple #[v', .int .i64 0])) w')
    (hno : parseL s.data.toList = none → ∀ w', Below w.heap.size w w' → P (.returned (.tuple #[.slice none 0 0, .int .i64 4])) w') :
    Calls Try.prog 20 #[.string s] w P := by
  have HOK := Lib.hid hok
  have HNO := Lib.hid hno
  clear hok hno
  rcases Nat.mod_two_eq_zero_or_one s.size with e | e
  · obtain ⟨n, hn⟩ : ∃ n, s.size = 2 * n := ⟨s.size / 2, by omega⟩
    have hl : s.data.toList.length = 2 * n := by rw [ssz, hn]
    have ht : ((s.size : Int) % 2 != 0) = false := by rw [bne_eq_false_iff_eq]; omega
    have HI : Hid ((s.size : Int) / 2 = (n : Int)) := by show _ = _; omega
    have hnn : n ≤ 200000 := by omega
    have HN := Lib.hid hn
    have HL := Lib.hid hl
    clear e hn hl
    go_enter Try.func20, Try.ntmps20
    go_wp2_with (at_make; refine wpList_mk (by rfl) _ _ (by rfl) .i64 .i64 _ _ n (by rfl) (by rfl) HI.out HI.out (by omega) ?_; intro w1 hown1 hb1)
    go_loopw [] (fun wr => ∃ k : Nat, k ≤ s.size ∧ wr.heap[w1.heap.size]? = some (.stringIter s k) ∧ OB wr w.heap.size (.slice (some ⟨w.heap.size, 0, none⟩) n n) (stateL s.data.toList k n) ∧ Below w.heap.size w wr ∧ Hid (∀ j, j < k → dv (s.data.toList.getD j 0).toNat < 16)) (fun wr => s.size - wr.iterPos w1.heap.size)
    case atStart => exact ⟨0, Nat.zero_le _, World.iter_heap _ _ _, by rw [st_zero]; exact hown1.later ((Below.refl _ _).alloc (Nat.le_refl _) _), hb1.trans ((Below.refl _ _).alloc hb1.size _), fun j hj => absurd hj (by omega)⟩
    case round =>
      obtain ⟨k, hk, hit, hown, hbel, hall⟩ := hrel
      by_cases h1 : k < s.size
      · obtain ⟨C, hC⟩ : ∃ C, C = (s.data.toList.getD k 0).toNat := ⟨_, rfl⟩
        have HC := Lib.hid hC
        by_cases hd : dv C < 16
        · have hasc : (s[k]'h1).toNat < 128 := by
            rw [sgd, ← hC]
            rcases Nat.lt_or_ge C 128 with h | h
            · exact h
            · rw [dv_big C h] at hd
              omega
          obtain ⟨W, hnx, hit', hown', hbel'⟩ : ∃ W, (∀ ty, Sem.run Try.prog (Instr.next (.pointer (some ⟨w1.heap.size, 0, none⟩)) true ty) wr = .ok (.tuple #[.bool true, .int .i64 k, .int .i32 (C : Int)]) W) ∧
              W.heap[w1.heap.size]? = some (.stringIter s (k + 1)) ∧ OB W w.heap.size (.slice (some ⟨w.heap.size, 0, none⟩) n n) (stateL s.data.toList k n) ∧ Below w.heap.size w W :=
            ⟨_, fun ty => by rw [Lib.run_next_ascii_at wr _ s k ty hit h1 hasc, sgd, ← hC], Lib.iterAt_heap _ _ _ _ _ hit, hown.iter hit _, Lib.below_iterAt hbel hb1.size _ _⟩
          have hkl : k < s.data.toList.length := by rw [ssz]; exact h1
          have hlen := st_length s.data.toList k n HL.out (by omega)
          have g3 := hown'.cellAt (k / 2) (by have := HN.out; omega)
          have g4 := hown'.frozenAt (k / 2)
          obtain ⟨Y, hY⟩ : ∃ Y, Y = stY s.data.toList k := ⟨_, rfl⟩
          have hYl : Y < 16 := by
            rw [hY]
            rcases Nat.eq_zero_or_pos k with h | h
            · rw [h]; exact stY_zero _
            · exact stY_lt _ _ hall.out h
          have hcv : ((UInt8.ofNat (stY s.data.toList k)).toNat : Int) = (Y : Int) := by rw [← hY]; simp; omega
          rw [st_get _ k n HL.out hkl, hcv] at g3
          have HV := Lib.hid (st_set s.data.toList k n HL.out hkl)
          obtain ⟨V, hV⟩ : ∃ V, V = dv C := ⟨_, rfl⟩
          have hc := pdig_ok C W hd
          rw [← hV] at hc
          have HD := Lib.hid hc
          have hVl : V < 16 := by rw [hV]; exact hd
          have HVV := Lib.hid hV
          have HY := Lib.hid hY
          have hkn : k / 2 < n := by have := HN.out; omega
          have HIT := Lib.hid hit
          have HIT' := Lib.hid hit'
          clear hC hcv hV hc hlen hY hit hit' hkl
          go_wp2_with (go_at_call 62; refine HD.out.mono ?_; rintro e w' ⟨rfl, rfl⟩)
          have hset := (Below.heap_setCell W ⟨w.heap.size, k / 2, none⟩ (Value.int IntKind.u8 (bits BinOp.or IntKind.u8 ((Y : Int) * 16) (V : Int))) w1.heap.size (by have h : w.heap.size < w1.heap.size := (hown1.lt _ rfl).2; exact Nat.ne_of_gt h)).trans HIT'.out
          go_roundw
          case rel =>
            refine ⟨k + 1, by omega, hset, ?_, hbel'.setCell (p := ⟨w.heap.size, k / 2, none⟩) (Nat.le_refl _) _, ?_⟩
            · rw [← HV.out]
              refine hown'.stored (k / 2) _ _ ?_
              rw [or_nib Y V hYl hVl _ (by omega), HY.out, HVV.out, HC.out]
            · intro j hj
              by_cases e : j = k
              · rw [e, ← HC.out, ← HVV.out]; exact hVl
              · exact hall.out j (by omega)
          case measure =>
            simp only [World.iterPos, HIT.out, hset]
            omega
        · obtain ⟨R, W, hR, hR2, hnx, hbel'⟩ : ∃ (R : Nat) (W : World), ¬ dv R < 16 ∧ R ≤ 2147483647 ∧ (∀ ty, Sem.run Try.prog (Instr.next (.pointer (some ⟨w1.heap.size, 0, none⟩)) true ty) wr = .ok (.tuple #[.bool true, .int .i64 k, .int .i32 (R : Int)]) W) ∧ Below w.heap.size w W := by
            by_cases hasc : (s[k]'h1).toNat < 128
            · refine ⟨C, _, hd, ?_, fun ty => by rw [Lib.run_next_ascii_at wr _ s k ty hit h1 hasc, sgd, ← hC], Lib.below_iterAt hbel hb1.size _ _⟩
              rw [sgd, ← hC] at hasc
              omega
            · have hh := decode_high s k h1 (by omega)
              refine ⟨(Utf8.decode s k).1, _, ?_, decode_le s k, fun ty => Lib.run_next_any_at wr _ s k ty hit h1, Lib.below_iterAt hbel hb1.size _ _⟩
              rw [dv_big _ hh.1]
              omega
          have HD := Lib.hid (pdig_no R W hR hR2)
          have hpn := parse_none s.data.toList k (by rw [ssz]; exact h1) (by rw [← hC]; exact hd)
          have HPN := Lib.hid hpn
          clear hC hpn hR hd hit
          go_wp2_with (go_at_call 62; refine HD.out.mono ?_; rintro e w' ⟨rfl, rfl⟩)
          exact HNO.out HPN.out _ hbel'
      · have hkn : k = s.size := by omega
        subst hkn
        have hnx := fun ty => Lib.run_next_end_at (P := Try.prog) wr w1.heap.size s s.size ty hit (by omega)
        clear hit
        go_wp2_with fail
        exact HOK.out _ (parse_some _ n HL.out (by rw [ssz]; exact hall.out)) _ _ (by rw [← st_end _ n HL.out, ssz]; exact hown.sl) hbel
  · have ht : ((s.size : Int) % 2 != 0) = true := by rw [bne_iff_ne]; omega
    have hl : parseL s.data.toList = none := parse_odd _ (by rw [ssz]; exact e)
    have HL := Lib.hid hl
    clear hl e
    go_enter Try.func20, Try.ntmps20
    go_wp2_with fail
    exact HNO.out HL.out _ (Below.refl _ _)
end Go.Proofs.Ytahnmnbjgbfeaaa
