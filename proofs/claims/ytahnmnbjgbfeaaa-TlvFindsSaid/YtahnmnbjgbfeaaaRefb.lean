/-
  The reference: head.
-/
import Derived.Test.YtahnmnbjgbfeaaaRefa
namespace Go.Proofs.Ytahnmnbjgbfeaaa
set_option linter.unusedVariables false
set_option linter.unusedSimpArgs false
open Go.RowKit

/-- Some bytes appended (they have just been laid into a block of their own, number B). -/
theorem wpList_appN {ops : Array Oper} {rest : List Oper} {o : Oper} {a : Act} {W : World} {Q : Exit → Act → World → Prop} (hgd : o.guard = none) (s x : Operand)
    (ho : o.op = .call { callee := .builtin .append, args := #[s, x], argTypes := #[22, 22] }) (w : World) (base : Nat) (v : Value) (l m : List UInt8) (B n : Nat) (cs : Array Value)
    (hs : a.eval s = v) (hn : m.length = n) (hx : a.eval x = .slice (some ⟨B, 0, none⟩) n n) (hW : Below w.heap.size w W) (hown : OB w base v l) (hB : W.heap[B]? = some (.cells cs 5 (0, 0))) (hcs : cs = (m.map bv).toArray)
    (hlen : l.length + m.length ≤ 100000000) (hbase : base ≤ w.heap.size)
    (h : ∀ v' w', OB w' base v' (l ++ m) → Below base w w' → wpList Try.prog ops Q rest (a.put o.dst v') w') : wpList Try.prog ops Q (o :: rest) a W := by
  subst hn
  refine wpList_appS hgd s x ho w base v l m _ _ hs hx hW hown (fun _ => ⟨B, 0, rfl, fun k hk => ?_⟩) hlen hbase h
  rw [Nat.zero_add, cell_of_row W B _ _ 5 (0, 0) hB, hcs]
  simp only [List.getElem?_toArray]
  exact map_bv_get m k hk

theorem lenF_small (n : Nat) (h : n < 128) : lenF n = [UInt8.ofNat n] := by unfold lenF; rw [if_pos h]
theorem lenF_mid (n : Nat) (h : ¬ n < 128) (h' : n < 256) : lenF n = [129, UInt8.ofNat n] := by unfold lenF; rw [if_neg h, if_pos (by omega)]
theorem lenF_big (n : Nat) (h : ¬ n < 256) : lenF n = [130, UInt8.ofNat (n / 256), UInt8.ofNat n] := by unfold lenF; rw [if_neg (by omega), if_neg (by omega)]
theorem tagF_two (N : Nat) (h : 255 < N) : tagF (N : Int) = [UInt8.ofNat (N / 256), UInt8.ofNat N] := by unfold tagF; rw [if_pos (by omega)]; simp [putL]
theorem tagF_one (N : Nat) (h : ¬ 255 < N) : tagF (N : Int) = [UInt8.ofNat N] := by unfold tagF; rw [if_neg (by omega)]; simp [putL]

set_option maxRecDepth 100000 in
set_option maxHeartbeats 3200000 in
theorem rhead_any (N n : Nat) (w : World) (h1 : N ≤ 65535) (h2 : n ≤ 4096) :
    Calls Try.prog 91 #[.int .i64 N, .int .i64 n] w fun e w' => ∃ v', e = .returned v' ∧ OB w' w.heap.size v' (tagF N ++ lenF n) ∧ Below w.heap.size w w' := by
  by_cases ht : 255 < N
  · by_cases hn2 : n < 256
    · by_cases hn : n < 128
      · have HL := Lib.hid (tagF_two N ht)
        have HN := Lib.hid (lenF_small n hn)
        go_enter Try.func91, Try.ntmps91
        go_wp2_with (first
          | (at_builtin; refine wpList_app1 rfl (.tmp 8) (.tmp 12) rfl w w.heap.size (.slice none 0 0) [] (UInt8.ofNat (N / 256)) _ w.heap.size rfl rfl (alloc_below _ _) (OB.nil _ _) (heap_alloc_new w _) (by simp; try omega) (by simp) (Nat.le_refl _) ?_; intro g2 cap2 w2 hob2 hb2)
          | (at_builtin; refine wpList_app1 rfl (.tmp 14) (.tmp 18) rfl w2 w.heap.size _ _ (UInt8.ofNat N) _ w2.heap.size rfl rfl (alloc_below _ _) hob2 (heap_alloc_new w2 _) (by simp; try omega) (by simp) hb2.size ?_; intro g3 cap3 w3 hob3 hb3)
          | (at_builtin; refine wpList_appN rfl (.tmp 38) (.tmp 41) rfl w3 w.heap.size _ _ [UInt8.ofNat n] w3.heap.size 1 _ rfl rfl rfl (alloc_below _ _) hob3 (heap_alloc_new w3 _) (by simp [bv]; try omega) (by simp) (Nat.le_trans hb2.size hb3.size) ?_; intro v4 w4 hob4 hb4))
        go_ret
        exact ⟨_, rfl, by rw [HL.out, HN.out]; simpa using hob4, (hb2.trans hb3).trans hb4⟩
      · have HL := Lib.hid (tagF_two N ht)
        have HN := Lib.hid (lenF_mid n hn hn2)
        go_enter Try.func91, Try.ntmps91
        go_wp2_with (first
          | (at_builtin; refine wpList_app1 rfl (.tmp 8) (.tmp 12) rfl w w.heap.size (.slice none 0 0) [] (UInt8.ofNat (N / 256)) _ w.heap.size rfl rfl (alloc_below _ _) (OB.nil _ _) (heap_alloc_new w _) (by simp; try omega) (by simp) (Nat.le_refl _) ?_; intro g2 cap2 w2 hob2 hb2)
          | (at_builtin; refine wpList_app1 rfl (.tmp 14) (.tmp 18) rfl w2 w.heap.size _ _ (UInt8.ofNat N) _ w2.heap.size rfl rfl (alloc_below _ _) hob2 (heap_alloc_new w2 _) (by simp; try omega) (by simp) hb2.size ?_; intro g3 cap3 w3 hob3 hb3)
          | (at_builtin; refine wpList_appN rfl (.tmp 33) (.tmp 36) rfl w3 w.heap.size _ _ [129, UInt8.ofNat n] w3.heap.size 2 _ rfl rfl rfl (alloc_below _ _) hob3 (heap_alloc_new w3 _) (by simp [bv]; try omega) (by simp) (Nat.le_trans hb2.size hb3.size) ?_; intro v4 w4 hob4 hb4))
        go_ret
        exact ⟨_, rfl, by rw [HL.out, HN.out]; simpa using hob4, (hb2.trans hb3).trans hb4⟩
    · have HL := Lib.hid (tagF_two N ht)
      have HN := Lib.hid (lenF_big n hn2)
      go_enter Try.func91, Try.ntmps91
      go_wp2_with (first
        | (at_builtin; refine wpList_app1 rfl (.tmp 8) (.tmp 12) rfl w w.heap.size (.slice none 0 0) [] (UInt8.ofNat (N / 256)) _ w.heap.size rfl rfl (alloc_below _ _) (OB.nil _ _) (heap_alloc_new w _) (by simp; try omega) (by simp) (Nat.le_refl _) ?_; intro g2 cap2 w2 hob2 hb2)
        | (at_builtin; refine wpList_app1 rfl (.tmp 14) (.tmp 18) rfl w2 w.heap.size _ _ (UInt8.ofNat N) _ w2.heap.size rfl rfl (alloc_below _ _) hob2 (heap_alloc_new w2 _) (by simp; try omega) (by simp) hb2.size ?_; intro g3 cap3 w3 hob3 hb3)
        | (at_builtin; refine wpList_appN rfl (.tmp 22) (.tmp 29) rfl w3 w.heap.size _ _ [130, UInt8.ofNat (n / 256), UInt8.ofNat n] w3.heap.size 3 _ rfl rfl rfl (alloc_below _ _) hob3 (heap_alloc_new w3 _) (by simp [bv]; try omega) (by simp) (Nat.le_trans hb2.size hb3.size) ?_; intro v4 w4 hob4 hb4))
      go_ret
      exact ⟨_, rfl, by rw [HL.out, HN.out]; simpa using hob4, (hb2.trans hb3).trans hb4⟩
  · by_cases hn2 : n < 256
    · by_cases hn : n < 128
      · have HL := Lib.hid (tagF_one N ht)
        have HN := Lib.hid (lenF_small n hn)
        go_enter Try.func91, Try.ntmps91
        go_wp2_with (first
          | (at_builtin; refine wpList_app1 rfl (.tmp 14) (.tmp 18) rfl w w.heap.size (.slice none 0 0) [] (UInt8.ofNat N) _ w.heap.size rfl rfl (alloc_below _ _) (OB.nil _ _) (heap_alloc_new w _) (by simp; try omega) (by simp) (Nat.le_refl _) ?_; intro g3 cap3 w3 hob3 hb3)
          | (at_builtin; refine wpList_appN rfl (.tmp 38) (.tmp 41) rfl w3 w.heap.size _ _ [UInt8.ofNat n] w3.heap.size 1 _ rfl rfl rfl (alloc_below _ _) hob3 (heap_alloc_new w3 _) (by simp [bv]; try omega) (by simp) hb3.size ?_; intro v4 w4 hob4 hb4))
        go_ret
        exact ⟨_, rfl, by rw [HL.out, HN.out]; simpa using hob4, hb3.trans hb4⟩
      · have HL := Lib.hid (tagF_one N ht)
        have HN := Lib.hid (lenF_mid n hn hn2)
        go_enter Try.func91, Try.ntmps91
        go_wp2_with (first
          | (at_builtin; refine wpList_app1 rfl (.tmp 14) (.tmp 18) rfl w w.heap.size (.slice none 0 0) [] (UInt8.ofNat N) _ w.heap.size rfl rfl (alloc_below _ _) (OB.nil _ _) (heap_alloc_new w _) (by simp; try omega) (by simp) (Nat.le_refl _) ?_; intro g3 cap3 w3 hob3 hb3)
          | (at_builtin; refine wpList_appN rfl (.tmp 33) (.tmp 36) rfl w3 w.heap.size _ _ [129, UInt8.ofNat n] w3.heap.size 2 _ rfl rfl rfl (alloc_below _ _) hob3 (heap_alloc_new w3 _) (by simp [bv]; try omega) (by simp) hb3.size ?_; intro v4 w4 hob4 hb4))
        go_ret
        exact ⟨_, rfl, by rw [HL.out, HN.out]; simpa using hob4, hb3.trans hb4⟩
    · have HL := Lib.hid (tagF_one N ht)
      have HN := Lib.hid (lenF_big n hn2)
      go_enter Try.func91, Try.ntmps91
      go_wp2_with (first
        | (at_builtin; refine wpList_app1 rfl (.tmp 14) (.tmp 18) rfl w w.heap.size (.slice none 0 0) [] (UInt8.ofNat N) _ w.heap.size rfl rfl (alloc_below _ _) (OB.nil _ _) (heap_alloc_new w _) (by simp; try omega) (by simp) (Nat.le_refl _) ?_; intro g3 cap3 w3 hob3 hb3)
        | (at_builtin; refine wpList_appN rfl (.tmp 22) (.tmp 29) rfl w3 w.heap.size _ _ [130, UInt8.ofNat (n / 256), UInt8.ofNat n] w3.heap.size 3 _ rfl rfl rfl (alloc_below _ _) hob3 (heap_alloc_new w3 _) (by simp [bv]; try omega) (by simp) hb3.size ?_; intro v4 w4 hob4 hb4))
      go_ret
      exact ⟨_, rfl, by rw [HL.out, HN.out]; simpa using hob4, hb3.trans hb4⟩
end Go.Proofs.Ytahnmnbjgbfeaaa
