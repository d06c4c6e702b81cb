/-
  The walk of the reference's Bytes.
-/
import Derived.Test.YtjkbfogjfgnhiaaDoorRsm
namespace Go.Proofs.YtjkbfogjfgnhiaaDoor
set_option linter.unusedVariables false
set_option linter.unusedSimpArgs false
open Go.RowKit

def BytP (l : List UInt8) (w : World) (e : Ending) (w' : World) : Prop := ∃ A c, e = .returned (.slice A l.length c) ∧ SL w' w'.heap.size (.slice A l.length c) l ∧ Below w.heap.size w w'
def BytC (c : Cn) : Prop := ∀ (v : Value) (w : World), c.ok = true → c.cnt ≤ 100 → KL w w.heap.size v c.kids →
  Calls Tryd.prog 55 #[.agg #[.int .i64 c.op, .int .i64 c.n, v]] w (BytP c.enc w)
theorem encS_take : ∀ (ts : List Cn) (k : Nat) (h : k < ts.length), encS (ts.take (k + 1)) = encS (ts.take k) ++ ts[k].enc
  | t :: ts, 0, _ => by simp [encS]
  | t :: ts, k + 1, h => by
    have := encS_take ts k (by simpa using h)
    rw [List.take_succ_cons, List.take_succ_cons, encS, encS, this, List.append_assoc]
    rfl
theorem encS_take_len : ∀ (ts : List Cn) (k : Nat), (encS (ts.take k)).length ≤ (encS ts).length
  | [], k => by simp
  | t :: ts, 0 => by simp [encS]
  | t :: ts, k + 1 => by
    have := encS_take_len ts k
    rw [List.take_succ_cons, encS, encS, List.length_append, List.length_append]
    omega
theorem SL.put {w w' : World} {l : List UInt8} {A : Option Addr} {c : Nat} (h : SL w w.heap.size (.slice A l.length c) l) (hb : Below w.heap.size w w') : 0 < l.length → ∃ b o, A = some ⟨b, o, none⟩ ∧ ∀ k, k < l.length → w'.cell? ⟨b, o + k, none⟩ = some (.int .u8 ((l.getD k 0).toNat : Int)) := by
  obtain ⟨A', c', hv, h1, h2, h3⟩ := h
  obtain ⟨rfl, _, rfl⟩ := (by simpa using hv : A = A' ∧ c = c')
  intro hp
  obtain ⟨b, o, hA, hb1, hc⟩ := h3 hp
  exact ⟨b, o, hA, fun k hk => (hb.cell (p := ⟨b, o + k, none⟩) hb1).trans (hc k hk)⟩

set_option maxRecDepth 100000 in
set_option maxHeartbeats 1600000 in
theorem byt0_any (n : Int) (ts : List Cn) (v : Value) (w : World) (hk : KL w w.heap.size v ts) :
    Calls Tryd.prog 55 #[.agg #[.int .i64 0, .int .i64 n, v]] w (BytP [UInt8.ofNat 0] w) := by
  obtain ⟨A, cap, rfl, h1, h2, h3⟩ := hk
  unfold maxLen at h2
  have hb2 := alloc2_below w (bx 0 n A ts.length cap) (Obj.cells #[Value.int IntKind.u8 0] 5)
  have hsz : ((w.alloc (bx 0 n A ts.length cap)).alloc (Obj.cells #[Value.int IntKind.u8 0] 5)).heap.size = w.heap.size + 1 + 1 := by rw [alloc_size, alloc_size]
  have hn0 := (Below.heap_alloc (w.alloc (bx 0 n A ts.length cap)) (Obj.cells #[Value.int IntKind.u8 0] 5) w.heap.size (by rw [alloc_size]; omega)).trans (heap_alloc_new w (bx 0 n A ts.length cap))
  have hn := heap_alloc_new (w.alloc (bx 0 n A ts.length cap)) (Obj.cells #[Value.int IntKind.u8 0] 5)
  rw [alloc_size w] at hn
  have hob := OB.of_cells (w := (w.alloc (bx 0 n A ts.length cap)).alloc (Obj.cells #[Value.int IntKind.u8 0] 5)) (base := w.heap.size + 1) (g := w.heap.size + 1) (n := 1) (l := [UInt8.ofNat 0]) (by omega) rfl (by unfold maxLen; omega) (by rw [hn]; simp [bv])
  have HB2 := Lib.hid hb2
  have HSZ := Lib.hid hsz
  have HN0 := Lib.hid hn0
  have HOB := Lib.hid hob
  clear hb2 hsz hn0 hn hob h3
  go_enter Tryd.func55, Tryd.ntmps55
  go_wp2_with fail
  go_ret
  exact ⟨some ⟨w.heap.size + 1, 0, none⟩, 1, rfl, HOB.out.sl, HB2.out⟩

set_option maxRecDepth 100000 in
set_option maxHeartbeats 1600000 in
theorem byt1_any (n : Int) (ts : List Cn) (v : Value) (w : World) (hk : KL w w.heap.size v ts) :
    Calls Tryd.prog 55 #[.agg #[.int .i64 1, .int .i64 n, v]] w (BytP [UInt8.ofNat 1] w) := by
  obtain ⟨A, cap, rfl, h1, h2, h3⟩ := hk
  unfold maxLen at h2
  have hb2 := alloc2_below w (bx 1 n A ts.length cap) (Obj.cells #[Value.int IntKind.u8 1] 5)
  have hsz : ((w.alloc (bx 1 n A ts.length cap)).alloc (Obj.cells #[Value.int IntKind.u8 1] 5)).heap.size = w.heap.size + 1 + 1 := by rw [alloc_size, alloc_size]
  have hn0 := (Below.heap_alloc (w.alloc (bx 1 n A ts.length cap)) (Obj.cells #[Value.int IntKind.u8 1] 5) w.heap.size (by rw [alloc_size]; omega)).trans (heap_alloc_new w (bx 1 n A ts.length cap))
  have hn := heap_alloc_new (w.alloc (bx 1 n A ts.length cap)) (Obj.cells #[Value.int IntKind.u8 1] 5)
  rw [alloc_size w] at hn
  have hob := OB.of_cells (w := (w.alloc (bx 1 n A ts.length cap)).alloc (Obj.cells #[Value.int IntKind.u8 1] 5)) (base := w.heap.size + 1) (g := w.heap.size + 1) (n := 1) (l := [UInt8.ofNat 1]) (by omega) rfl (by unfold maxLen; omega) (by rw [hn]; simp [bv])
  have HB2 := Lib.hid hb2
  have HSZ := Lib.hid hsz
  have HN0 := Lib.hid hn0
  have HOB := Lib.hid hob
  clear hb2 hsz hn0 hn hob h3
  go_enter Tryd.func55, Tryd.ntmps55
  go_wp2_with fail
  go_ret
  exact ⟨some ⟨w.heap.size + 1, 0, none⟩, 1, rfl, HOB.out.sl, HB2.out⟩

set_option maxRecDepth 100000 in
set_option maxHeartbeats 3200000 in
theorem byt2_any (m : Nat) (hm : m < 100) (ts : List Cn) (v : Value) (w : World) (hk : KL w w.heap.size v ts) :
    Calls Tryd.prog 55 #[.agg #[.int .i64 2, .int .i64 (m : Int), v]] w (BytP [UInt8.ofNat 2, UInt8.ofNat m] w) := by
  obtain ⟨A, cap, rfl, h1, h2, h3⟩ := hk
  unfold maxLen at h2
  have hb2 := alloc2_below w (bx 2 (m : Int) A ts.length cap) (Obj.cells #[Value.int IntKind.u8 2] 5)
  have hsz : ((w.alloc (bx 2 (m : Int) A ts.length cap)).alloc (Obj.cells #[Value.int IntKind.u8 2] 5)).heap.size = w.heap.size + 1 + 1 := by rw [alloc_size, alloc_size]
  have hn0 := (Below.heap_alloc (w.alloc (bx 2 (m : Int) A ts.length cap)) (Obj.cells #[Value.int IntKind.u8 2] 5) w.heap.size (by rw [alloc_size]; omega)).trans (heap_alloc_new w (bx 2 (m : Int) A ts.length cap))
  have hn := heap_alloc_new (w.alloc (bx 2 (m : Int) A ts.length cap)) (Obj.cells #[Value.int IntKind.u8 2] 5)
  rw [alloc_size w] at hn
  have hob := OB.of_cells (w := (w.alloc (bx 2 (m : Int) A ts.length cap)).alloc (Obj.cells #[Value.int IntKind.u8 2] 5)) (base := w.heap.size + 1) (g := w.heap.size + 1) (n := 1) (l := [UInt8.ofNat 2]) (by omega) rfl (by unfold maxLen; omega) (by rw [hn]; simp [bv])
  have HB2 := Lib.hid hb2
  have HSZ := Lib.hid hsz
  have HN0 := Lib.hid hn0
  have HOB := Lib.hid hob
  have i1 : 0 ≤ (m : Int) := by omega
  have i2 : (m : Int) ≤ 255 := by omega
  have hz : (m : Int) = ((UInt8.ofNat m).toNat : Int) := by rw [UInt8.toNat_ofNat']; omega
  have HZ := Lib.hid hz
  have HB3 := Lib.hid (alloc_below ((w.alloc (bx 2 (m : Int) A ts.length cap)).alloc (Obj.cells #[Value.int IntKind.u8 2] 5)) (Obj.cells #[Value.int IntKind.u8 (m : Int)] 5))
  have hn3 := heap_alloc_new ((w.alloc (bx 2 (m : Int) A ts.length cap)).alloc (Obj.cells #[Value.int IntKind.u8 2] 5)) (Obj.cells #[Value.int IntKind.u8 (m : Int)] 5)
  rw [hsz] at hn3
  have HN3 := Lib.hid hn3
  clear hb2 hsz hn0 hn hob h3 hz hn3
  go_enter Tryd.func55, Tryd.ntmps55
  go_wp2_with (at_builtin; refine wpList_app1 rfl (.tmp 38) (.tmp 42) rfl _ (w.heap.size + 1) _ [UInt8.ofNat 2] (UInt8.ofNat m) _ (w.heap.size + 1 + 1) rfl rfl HB3.out HOB.out HN3.out HZ.out (by simp) (by rw [HSZ.out]; omega) ?_; intro g3 c3 w3 hob3 hb3; have HOB3 := Lib.hid hob3; have HB4 := Lib.hid hb3; clear hob3 hb3)
  go_ret
  exact ⟨some ⟨g3, 0, none⟩, c3, rfl, HOB3.out.sl, HB2.out.trans (HB4.out.mono (by omega))⟩

set_option maxRecDepth 100000 in
set_option maxHeartbeats 3200000 in
theorem byt3_any (m : Nat) (hm : m < 100) (ts : List Cn) (v : Value) (w : World) (hk : KL w w.heap.size v ts) :
    Calls Tryd.prog 55 #[.agg #[.int .i64 3, .int .i64 (m : Int), v]] w (BytP [UInt8.ofNat 3, UInt8.ofNat m] w) := by
  obtain ⟨A, cap, rfl, h1, h2, h3⟩ := hk
  unfold maxLen at h2
  have hb2 := alloc2_below w (bx 3 (m : Int) A ts.length cap) (Obj.cells #[Value.int IntKind.u8 3] 5)
  have hsz : ((w.alloc (bx 3 (m : Int) A ts.length cap)).alloc (Obj.cells #[Value.int IntKind.u8 3] 5)).heap.size = w.heap.size + 1 + 1 := by rw [alloc_size, alloc_size]
  have hn0 := (Below.heap_alloc (w.alloc (bx 3 (m : Int) A ts.length cap)) (Obj.cells #[Value.int IntKind.u8 3] 5) w.heap.size (by rw [alloc_size]; omega)).trans (heap_alloc_new w (bx 3 (m : Int) A ts.length cap))
  have hn := heap_alloc_new (w.alloc (bx 3 (m : Int) A ts.length cap)) (Obj.cells #[Value.int IntKind.u8 3] 5)
  rw [alloc_size w] at hn
  have hob := OB.of_cells (w := (w.alloc (bx 3 (m : Int) A ts.length cap)).alloc (Obj.cells #[Value.int IntKind.u8 3] 5)) (base := w.heap.size + 1) (g := w.heap.size + 1) (n := 1) (l := [UInt8.ofNat 3]) (by omega) rfl (by unfold maxLen; omega) (by rw [hn]; simp [bv])
  have HB2 := Lib.hid hb2
  have HSZ := Lib.hid hsz
  have HN0 := Lib.hid hn0
  have HOB := Lib.hid hob
  have i1 : 0 ≤ (m : Int) := by omega
  have i2 : (m : Int) ≤ 255 := by omega
  have hz : (m : Int) = ((UInt8.ofNat m).toNat : Int) := by rw [UInt8.toNat_ofNat']; omega
  have HZ := Lib.hid hz
  have HB3 := Lib.hid (alloc_below ((w.alloc (bx 3 (m : Int) A ts.length cap)).alloc (Obj.cells #[Value.int IntKind.u8 3] 5)) (Obj.cells #[Value.int IntKind.u8 (m : Int)] 5))
  have hn3 := heap_alloc_new ((w.alloc (bx 3 (m : Int) A ts.length cap)).alloc (Obj.cells #[Value.int IntKind.u8 3] 5)) (Obj.cells #[Value.int IntKind.u8 (m : Int)] 5)
  rw [hsz] at hn3
  have HN3 := Lib.hid hn3
  clear hb2 hsz hn0 hn hob h3 hz hn3
  go_enter Tryd.func55, Tryd.ntmps55
  go_wp2_with (at_builtin; refine wpList_app1 rfl (.tmp 38) (.tmp 42) rfl _ (w.heap.size + 1) _ [UInt8.ofNat 3] (UInt8.ofNat m) _ (w.heap.size + 1 + 1) rfl rfl HB3.out HOB.out HN3.out HZ.out (by simp) (by rw [HSZ.out]; omega) ?_; intro g3 c3 w3 hob3 hb3; have HOB3 := Lib.hid hob3; have HB4 := Lib.hid hb3; clear hob3 hb3)
  go_ret
  exact ⟨some ⟨g3, 0, none⟩, c3, rfl, HOB3.out.sl, HB2.out.trans (HB4.out.mono (by omega))⟩

set_option maxRecDepth 100000 in
set_option maxHeartbeats 3200000 in
theorem byt4_any (m : Nat) (hm : m < 100) (ts : List Cn) (v : Value) (w : World) (hk : KL w w.heap.size v ts) :
    Calls Tryd.prog 55 #[.agg #[.int .i64 4, .int .i64 (m : Int), v]] w (BytP [UInt8.ofNat 4, UInt8.ofNat m] w) := by
  obtain ⟨A, cap, rfl, h1, h2, h3⟩ := hk
  unfold maxLen at h2
  have hb2 := alloc2_below w (bx 4 (m : Int) A ts.length cap) (Obj.cells #[Value.int IntKind.u8 4] 5)
  have hsz : ((w.alloc (bx 4 (m : Int) A ts.length cap)).alloc (Obj.cells #[Value.int IntKind.u8 4] 5)).heap.size = w.heap.size + 1 + 1 := by rw [alloc_size, alloc_size]
  have hn0 := (Below.heap_alloc (w.alloc (bx 4 (m : Int) A ts.length cap)) (Obj.cells #[Value.int IntKind.u8 4] 5) w.heap.size (by rw [alloc_size]; omega)).trans (heap_alloc_new w (bx 4 (m : Int) A ts.length cap))
  have hn := heap_alloc_new (w.alloc (bx 4 (m : Int) A ts.length cap)) (Obj.cells #[Value.int IntKind.u8 4] 5)
  rw [alloc_size w] at hn
  have hob := OB.of_cells (w := (w.alloc (bx 4 (m : Int) A ts.length cap)).alloc (Obj.cells #[Value.int IntKind.u8 4] 5)) (base := w.heap.size + 1) (g := w.heap.size + 1) (n := 1) (l := [UInt8.ofNat 4]) (by omega) rfl (by unfold maxLen; omega) (by rw [hn]; simp [bv])
  have HB2 := Lib.hid hb2
  have HSZ := Lib.hid hsz
  have HN0 := Lib.hid hn0
  have HOB := Lib.hid hob
  have i1 : 0 ≤ (m : Int) := by omega
  have i2 : (m : Int) ≤ 255 := by omega
  have hz : (m : Int) = ((UInt8.ofNat m).toNat : Int) := by rw [UInt8.toNat_ofNat']; omega
  have HZ := Lib.hid hz
  have HB3 := Lib.hid (alloc_below ((w.alloc (bx 4 (m : Int) A ts.length cap)).alloc (Obj.cells #[Value.int IntKind.u8 4] 5)) (Obj.cells #[Value.int IntKind.u8 (m : Int)] 5))
  have hn3 := heap_alloc_new ((w.alloc (bx 4 (m : Int) A ts.length cap)).alloc (Obj.cells #[Value.int IntKind.u8 4] 5)) (Obj.cells #[Value.int IntKind.u8 (m : Int)] 5)
  rw [hsz] at hn3
  have HN3 := Lib.hid hn3
  clear hb2 hsz hn0 hn hob h3 hz hn3
  go_enter Tryd.func55, Tryd.ntmps55
  go_wp2_with (at_builtin; refine wpList_app1 rfl (.tmp 38) (.tmp 42) rfl _ (w.heap.size + 1) _ [UInt8.ofNat 4] (UInt8.ofNat m) _ (w.heap.size + 1 + 1) rfl rfl HB3.out HOB.out HN3.out HZ.out (by simp) (by rw [HSZ.out]; omega) ?_; intro g3 c3 w3 hob3 hb3; have HOB3 := Lib.hid hob3; have HB4 := Lib.hid hb3; clear hob3 hb3)
  go_ret
  exact ⟨some ⟨g3, 0, none⟩, c3, rfl, HOB3.out.sl, HB2.out.trans (HB4.out.mono (by omega))⟩

set_option maxRecDepth 100000 in
set_option maxHeartbeats 3200000 in
theorem byt5_any (m : Nat) (hm : m < 100) (ts : List Cn) (v : Value) (w : World) (hk : KL w w.heap.size v ts) :
    Calls Tryd.prog 55 #[.agg #[.int .i64 5, .int .i64 (m : Int), v]] w (BytP [UInt8.ofNat 5, UInt8.ofNat m] w) := by
  obtain ⟨A, cap, rfl, h1, h2, h3⟩ := hk
  unfold maxLen at h2
  have hb2 := alloc2_below w (bx 5 (m : Int) A ts.length cap) (Obj.cells #[Value.int IntKind.u8 5] 5)
  have hsz : ((w.alloc (bx 5 (m : Int) A ts.length cap)).alloc (Obj.cells #[Value.int IntKind.u8 5] 5)).heap.size = w.heap.size + 1 + 1 := by rw [alloc_size, alloc_size]
  have hn0 := (Below.heap_alloc (w.alloc (bx 5 (m : Int) A ts.length cap)) (Obj.cells #[Value.int IntKind.u8 5] 5) w.heap.size (by rw [alloc_size]; omega)).trans (heap_alloc_new w (bx 5 (m : Int) A ts.length cap))
  have hn := heap_alloc_new (w.alloc (bx 5 (m : Int) A ts.length cap)) (Obj.cells #[Value.int IntKind.u8 5] 5)
  rw [alloc_size w] at hn
  have hob := OB.of_cells (w := (w.alloc (bx 5 (m : Int) A ts.length cap)).alloc (Obj.cells #[Value.int IntKind.u8 5] 5)) (base := w.heap.size + 1) (g := w.heap.size + 1) (n := 1) (l := [UInt8.ofNat 5]) (by omega) rfl (by unfold maxLen; omega) (by rw [hn]; simp [bv])
  have HB2 := Lib.hid hb2
  have HSZ := Lib.hid hsz
  have HN0 := Lib.hid hn0
  have HOB := Lib.hid hob
  have i1 : 0 ≤ (m : Int) := by omega
  have i2 : (m : Int) ≤ 255 := by omega
  have hz : (m : Int) = ((UInt8.ofNat m).toNat : Int) := by rw [UInt8.toNat_ofNat']; omega
  have HZ := Lib.hid hz
  have HB3 := Lib.hid (alloc_below ((w.alloc (bx 5 (m : Int) A ts.length cap)).alloc (Obj.cells #[Value.int IntKind.u8 5] 5)) (Obj.cells #[Value.int IntKind.u8 (m : Int)] 5))
  have hn3 := heap_alloc_new ((w.alloc (bx 5 (m : Int) A ts.length cap)).alloc (Obj.cells #[Value.int IntKind.u8 5] 5)) (Obj.cells #[Value.int IntKind.u8 (m : Int)] 5)
  rw [hsz] at hn3
  have HN3 := Lib.hid hn3
  clear hb2 hsz hn0 hn hob h3 hz hn3
  go_enter Tryd.func55, Tryd.ntmps55
  go_wp2_with (at_builtin; refine wpList_app1 rfl (.tmp 38) (.tmp 42) rfl _ (w.heap.size + 1) _ [UInt8.ofNat 5] (UInt8.ofNat m) _ (w.heap.size + 1 + 1) rfl rfl HB3.out HOB.out HN3.out HZ.out (by simp) (by rw [HSZ.out]; omega) ?_; intro g3 c3 w3 hob3 hb3; have HOB3 := Lib.hid hob3; have HB4 := Lib.hid hb3; clear hob3 hb3)
  go_ret
  exact ⟨some ⟨g3, 0, none⟩, c3, rfl, HOB3.out.sl, HB2.out.trans (HB4.out.mono (by omega))⟩

set_option maxRecDepth 100000 in
set_option maxHeartbeats 6400000 in
theorem byt6_any (n : Int) (ts : List Cn) (hC : ∀ (k : Nat) (h : k < ts.length), BytC ts[k]) (hok : okK ts = true) (hcn : cntK ts ≤ 100) (v : Value) (w : World) (hk : KL w w.heap.size v ts) :
    Calls Tryd.prog 55 #[.agg #[.int .i64 6, .int .i64 n, v]] w (BytP ([UInt8.ofNat 6, UInt8.ofNat ts.length] ++ encS ts) w) := by
  obtain ⟨A, cap, rfl, h1, h2, h3⟩ := hk
  unfold maxLen at h2
  have hb2 := alloc2_below w (bx 6 n A ts.length cap) (Obj.cells #[Value.int IntKind.u8 6] 5)
  have hsz : ((w.alloc (bx 6 n A ts.length cap)).alloc (Obj.cells #[Value.int IntKind.u8 6] 5)).heap.size = w.heap.size + 1 + 1 := by rw [alloc_size, alloc_size]
  have hn0 := (Below.heap_alloc (w.alloc (bx 6 n A ts.length cap)) (Obj.cells #[Value.int IntKind.u8 6] 5) w.heap.size (by rw [alloc_size]; omega)).trans (heap_alloc_new w (bx 6 n A ts.length cap))
  have hn := heap_alloc_new (w.alloc (bx 6 n A ts.length cap)) (Obj.cells #[Value.int IntKind.u8 6] 5)
  rw [alloc_size w] at hn
  have hob := OB.of_cells (w := (w.alloc (bx 6 n A ts.length cap)).alloc (Obj.cells #[Value.int IntKind.u8 6] 5)) (base := w.heap.size + 1) (g := w.heap.size + 1) (n := 1) (l := [UInt8.ofNat 6]) (by omega) rfl (by unfold maxLen; omega) (by rw [hn]; simp [bv])
  have HB2 := Lib.hid hb2
  have HSZ := Lib.hid hsz
  have HN0 := Lib.hid hn0
  have HOB := Lib.hid hob
  have hcl := cntK_len ts
  have i1 : 0 ≤ (ts.length : Int) := by omega
  have i2 : (ts.length : Int) ≤ 255 := by omega
  have hz : (ts.length : Int) = ((UInt8.ofNat ts.length).toNat : Int) := by rw [UInt8.toNat_ofNat']; omega
  have HZ := Lib.hid hz
  have HB3 := Lib.hid (alloc_below ((w.alloc (bx 6 n A ts.length cap)).alloc (Obj.cells #[Value.int IntKind.u8 6] 5)) (Obj.cells #[Value.int IntKind.u8 (ts.length : Int)] 5))
  have hn3 := heap_alloc_new ((w.alloc (bx 6 n A ts.length cap)).alloc (Obj.cells #[Value.int IntKind.u8 6] 5)) (Obj.cells #[Value.int IntKind.u8 (ts.length : Int)] 5)
  rw [hsz] at hn3
  have HN3 := Lib.hid hn3
  have HC := Lib.hid hC
  have HOK := Lib.hid hok
  have hec := encS_cnt ts
  have HEL : Hid (∀ k, (encS (ts.take k)).length ≤ 200) := fun k => by have := encS_take_len ts k; omega
  have HX1 := Lib.hid hn0
  clear hb2 hsz hn0 hn hob hz hn3 hC hok hec
  go_enter Tryd.func55, Tryd.ntmps55
  go_wp2_with (at_builtin; refine wpList_app1 rfl (.tmp 12) (.tmp 17) rfl _ (w.heap.size + 1) _ [UInt8.ofNat 6] (UInt8.ofNat ts.length) _ (w.heap.size + 1 + 1) rfl rfl HB3.out HOB.out HN3.out HZ.out (by simp) (by rw [HSZ.out]; omega) ?_; intro g3 c3 w3 hob3 hb3; have HOB3 := Lib.hid hob3; have HB4 := Lib.hid hb3; clear hob3 hb3)
  have k3 := (HB4.out.block w.heap.size (by omega)).trans HN0.out
  have K3 := Lib.hid k3
  have hs3 := HB4.out.size
  rw [HSZ.out] at hs3
  clear k3
  go_loopw [3, 4] (fun q i wr => ∃ (k : Nat), k ≤ ts.length ∧ i = .int .i64 k ∧ Hid (OB wr (w.heap.size + 1) q ([UInt8.ofNat 6, UInt8.ofNat ts.length] ++ encS (ts.take k))) ∧ Hid (Below (w.heap.size + 1) w3 wr)) (fun _ i _ => ts.length - (intOf i).toNat)
  case atStart => exact ⟨0, Nat.zero_le _, rfl, by show OB _ _ _ _; rw [List.take_zero]; exact HOB3.out, Below.refl _ _⟩
  case round =>
    obtain ⟨k, hkl, rfl, HO, HB⟩ := hrel
    have HBW := Lib.hid (HB2.out.trans ((HB4.out.trans HB.out).mono (show w.heap.size ≤ w.heap.size + 1 by omega)))
    have hsr := HB.out.size
    have kk := (HB.out.block w.heap.size (by omega)).trans K3.out
    have p2 := cell_of_row _ _ 2 _ _ _ kk
    clear kk
    obtain ⟨A6, c6, hq6⟩ := HO.out.value
    have hql : ([UInt8.ofNat 6, UInt8.ofNat ts.length] ++ encS (ts.take k)).length ≤ 300 := by
      have := HEL.out k
      rw [List.length_append]
      simp only [List.length_cons, List.length_nil]
      omega
    by_cases hlt : k < ts.length
    · obtain ⟨b1, o1, rfl, hb1, hts⟩ := h3.out (by omega)
      have hta := CnsAt.get hts hlt
      have hcd := cntK_get ts k hlt
      have hokt := okK_get ts k hlt HOK.out
      have hCt := HC.out k hlt
      have hst := encS_take ts k hlt
      obtain ⟨t, ht⟩ : ∃ t, t = ts[k] := ⟨_, rfl⟩
      rw [← ht] at hta hcd hokt hCt hst
      have hte := Cn.enc_cnt t
      have hta' := CnAt.keep HBW.out.size (fun p hp => HBW.out.cell hp) t b1 _ hb1 hta
      obtain ⟨A2, c2, g1, g2, g3', hu⟩ := hta'.cells
      have HV := Lib.hid (hCt (.slice A2 t.kids.length c2) _ hokt (by omega) hu)
      unfold BytP at HV
      have hst2 : [UInt8.ofNat 6, UInt8.ofNat ts.length] ++ encS (ts.take (k + 1)) = [UInt8.ofNat 6, UInt8.ofNat ts.length] ++ encS (ts.take k) ++ t.enc := by rw [hst, List.append_assoc]
      have HST := Lib.hid hst2
      have j1 : (0 : Int) ≤ (k : Int) := by omega
      have j2 : (k : Int) < (ts.length : Int) := by omega
      have hxl : t.enc.length ≤ 300 := by omega
      clear hta hta' hts ht hu hcd hokt hCt hst hst2 hte
      generalize t.enc = x at *
      generalize [UInt8.ofNat 6, UInt8.ofNat ts.length] ++ encS (ts.take k) = L at *
      subst hq6
      go_wp2_with fail
      refine HV.out.mono ?_
      rintro e w5 ⟨A7, c7, rfl, hsl, hb5⟩
      have HO5 := Lib.hid (HO.out.later hb5)
      have HPUT := Lib.hid (hsl.put (Below.refl _ w5))
      have hs5 := hb5.size
      have HB5 := Lib.hid (HB.out.trans (hb5.mono (by omega)))
      have HLL := Lib.hid (show L.length + x.length ≤ 100000000 by omega)
      have HBS := Lib.hid (show w.heap.size + 1 ≤ w5.heap.size by omega)
      clear hb5 hsl hql hxl
      go_wp2_with (at_builtin; refine wpList_appS rfl (.tmp 26) (.tmp 32) rfl w5 (w.heap.size + 1) _ L x _ _ rfl rfl (Below.refl _ _) HO5.out HPUT.out HLL.out HBS.out ?_; intro v6 w6 hob6 hb6; have HO6 := Lib.hid hob6; have HB6 := Lib.hid (HB5.out.trans hb6); clear hob6 hb6)
      go_roundw
      case rel => exact ⟨k + 1, by omega, by go_num, by show OB _ _ _ _; rw [HST.out]; exact HO6.out, HB6⟩
      case measure => simp [intOf]; omega
    · have hkk : k = ts.length := by omega
      have HE : Hid ([UInt8.ofNat 6, UInt8.ofNat ts.length] ++ encS (ts.take k) = [UInt8.ofNat 6, UInt8.ofNat ts.length] ++ encS ts) := by show _ = _; rw [hkk, List.take_length]
      have hsl := HO.out.sl
      rw [HE.out] at hsl hq6
      subst hq6
      have HSL := Lib.hid hsl
      clear hsl hql hkk
      go_wp2_with fail
      go_ret
      exact ⟨A6, c6, rfl, HSL.out, HBW.out⟩

set_option maxRecDepth 100000 in
set_option maxHeartbeats 6400000 in
theorem byt7_any (n : Int) (ts : List Cn) (hC : ∀ (k : Nat) (h : k < ts.length), BytC ts[k]) (hok : okK ts = true) (hcn : cntK ts ≤ 100) (v : Value) (w : World) (hk : KL w w.heap.size v ts) :
    Calls Tryd.prog 55 #[.agg #[.int .i64 7, .int .i64 n, v]] w (BytP ([UInt8.ofNat 7, UInt8.ofNat ts.length] ++ encS ts) w) := by
  obtain ⟨A, cap, rfl, h1, h2, h3⟩ := hk
  unfold maxLen at h2
  have hb2 := alloc2_below w (bx 7 n A ts.length cap) (Obj.cells #[Value.int IntKind.u8 7] 5)
  have hsz : ((w.alloc (bx 7 n A ts.length cap)).alloc (Obj.cells #[Value.int IntKind.u8 7] 5)).heap.size = w.heap.size + 1 + 1 := by rw [alloc_size, alloc_size]
  have hn0 := (Below.heap_alloc (w.alloc (bx 7 n A ts.length cap)) (Obj.cells #[Value.int IntKind.u8 7] 5) w.heap.size (by rw [alloc_size]; omega)).trans (heap_alloc_new w (bx 7 n A ts.length cap))
  have hn := heap_alloc_new (w.alloc (bx 7 n A ts.length cap)) (Obj.cells #[Value.int IntKind.u8 7] 5)
  rw [alloc_size w] at hn
  have hob := OB.of_cells (w := (w.alloc (bx 7 n A ts.length cap)).alloc (Obj.cells #[Value.int IntKind.u8 7] 5)) (base := w.heap.size + 1) (g := w.heap.size + 1) (n := 1) (l := [UInt8.ofNat 7]) (by omega) rfl (by unfold maxLen; omega) (by rw [hn]; simp [bv])
  have HB2 := Lib.hid hb2
  have HSZ := Lib.hid hsz
  have HN0 := Lib.hid hn0
  have HOB := Lib.hid hob
  have hcl := cntK_len ts
  have i1 : 0 ≤ (ts.length : Int) := by omega
  have i2 : (ts.length : Int) ≤ 255 := by omega
  have hz : (ts.length : Int) = ((UInt8.ofNat ts.length).toNat : Int) := by rw [UInt8.toNat_ofNat']; omega
  have HZ := Lib.hid hz
  have HB3 := Lib.hid (alloc_below ((w.alloc (bx 7 n A ts.length cap)).alloc (Obj.cells #[Value.int IntKind.u8 7] 5)) (Obj.cells #[Value.int IntKind.u8 (ts.length : Int)] 5))
  have hn3 := heap_alloc_new ((w.alloc (bx 7 n A ts.length cap)).alloc (Obj.cells #[Value.int IntKind.u8 7] 5)) (Obj.cells #[Value.int IntKind.u8 (ts.length : Int)] 5)
  rw [hsz] at hn3
  have HN3 := Lib.hid hn3
  have HC := Lib.hid hC
  have HOK := Lib.hid hok
  have hec := encS_cnt ts
  have HEL : Hid (∀ k, (encS (ts.take k)).length ≤ 200) := fun k => by have := encS_take_len ts k; omega
  have HX1 := Lib.hid hn0
  clear hb2 hsz hn0 hn hob hz hn3 hC hok hec
  go_enter Tryd.func55, Tryd.ntmps55
  go_wp2_with (at_builtin; refine wpList_app1 rfl (.tmp 12) (.tmp 17) rfl _ (w.heap.size + 1) _ [UInt8.ofNat 7] (UInt8.ofNat ts.length) _ (w.heap.size + 1 + 1) rfl rfl HB3.out HOB.out HN3.out HZ.out (by simp) (by rw [HSZ.out]; omega) ?_; intro g3 c3 w3 hob3 hb3; have HOB3 := Lib.hid hob3; have HB4 := Lib.hid hb3; clear hob3 hb3)
  have k3 := (HB4.out.block w.heap.size (by omega)).trans HN0.out
  have K3 := Lib.hid k3
  have hs3 := HB4.out.size
  rw [HSZ.out] at hs3
  clear k3
  go_loopw [3, 4] (fun q i wr => ∃ (k : Nat), k ≤ ts.length ∧ i = .int .i64 k ∧ Hid (OB wr (w.heap.size + 1) q ([UInt8.ofNat 7, UInt8.ofNat ts.length] ++ encS (ts.take k))) ∧ Hid (Below (w.heap.size + 1) w3 wr)) (fun _ i _ => ts.length - (intOf i).toNat)
  case atStart => exact ⟨0, Nat.zero_le _, rfl, by show OB _ _ _ _; rw [List.take_zero]; exact HOB3.out, Below.refl _ _⟩
  case round =>
    obtain ⟨k, hkl, rfl, HO, HB⟩ := hrel
    have HBW := Lib.hid (HB2.out.trans ((HB4.out.trans HB.out).mono (show w.heap.size ≤ w.heap.size + 1 by omega)))
    have hsr := HB.out.size
    have kk := (HB.out.block w.heap.size (by omega)).trans K3.out
    have p2 := cell_of_row _ _ 2 _ _ _ kk
    clear kk
    obtain ⟨A6, c6, hq6⟩ := HO.out.value
    have hql : ([UInt8.ofNat 7, UInt8.ofNat ts.length] ++ encS (ts.take k)).length ≤ 300 := by
      have := HEL.out k
      rw [List.length_append]
      simp only [List.length_cons, List.length_nil]
      omega
    by_cases hlt : k < ts.length
    · obtain ⟨b1, o1, rfl, hb1, hts⟩ := h3.out (by omega)
      have hta := CnsAt.get hts hlt
      have hcd := cntK_get ts k hlt
      have hokt := okK_get ts k hlt HOK.out
      have hCt := HC.out k hlt
      have hst := encS_take ts k hlt
      obtain ⟨t, ht⟩ : ∃ t, t = ts[k] := ⟨_, rfl⟩
      rw [← ht] at hta hcd hokt hCt hst
      have hte := Cn.enc_cnt t
      have hta' := CnAt.keep HBW.out.size (fun p hp => HBW.out.cell hp) t b1 _ hb1 hta
      obtain ⟨A2, c2, g1, g2, g3', hu⟩ := hta'.cells
      have HV := Lib.hid (hCt (.slice A2 t.kids.length c2) _ hokt (by omega) hu)
      unfold BytP at HV
      have hst2 : [UInt8.ofNat 7, UInt8.ofNat ts.length] ++ encS (ts.take (k + 1)) = [UInt8.ofNat 7, UInt8.ofNat ts.length] ++ encS (ts.take k) ++ t.enc := by rw [hst, List.append_assoc]
      have HST := Lib.hid hst2
      have j1 : (0 : Int) ≤ (k : Int) := by omega
      have j2 : (k : Int) < (ts.length : Int) := by omega
      have hxl : t.enc.length ≤ 300 := by omega
      clear hta hta' hts ht hu hcd hokt hCt hst hst2 hte
      generalize t.enc = x at *
      generalize [UInt8.ofNat 7, UInt8.ofNat ts.length] ++ encS (ts.take k) = L at *
      subst hq6
      go_wp2_with fail
      refine HV.out.mono ?_
      rintro e w5 ⟨A7, c7, rfl, hsl, hb5⟩
      have HO5 := Lib.hid (HO.out.later hb5)
      have HPUT := Lib.hid (hsl.put (Below.refl _ w5))
      have hs5 := hb5.size
      have HB5 := Lib.hid (HB.out.trans (hb5.mono (by omega)))
      have HLL := Lib.hid (show L.length + x.length ≤ 100000000 by omega)
      have HBS := Lib.hid (show w.heap.size + 1 ≤ w5.heap.size by omega)
      clear hb5 hsl hql hxl
      go_wp2_with (at_builtin; refine wpList_appS rfl (.tmp 26) (.tmp 32) rfl w5 (w.heap.size + 1) _ L x _ _ rfl rfl (Below.refl _ _) HO5.out HPUT.out HLL.out HBS.out ?_; intro v6 w6 hob6 hb6; have HO6 := Lib.hid hob6; have HB6 := Lib.hid (HB5.out.trans hb6); clear hob6 hb6)
      go_roundw
      case rel => exact ⟨k + 1, by omega, by go_num, by show OB _ _ _ _; rw [HST.out]; exact HO6.out, HB6⟩
      case measure => simp [intOf]; omega
    · have hkk : k = ts.length := by omega
      have HE : Hid ([UInt8.ofNat 7, UInt8.ofNat ts.length] ++ encS (ts.take k) = [UInt8.ofNat 7, UInt8.ofNat ts.length] ++ encS ts) := by show _ = _; rw [hkk, List.take_length]
      have hsl := HO.out.sl
      rw [HE.out] at hsl hq6
      subst hq6
      have HSL := Lib.hid hsl
      clear hsl hql hkk
      go_wp2_with fail
      go_ret
      exact ⟨A6, c6, rfl, HSL.out, HBW.out⟩

theorem byt_step (c : Cn) (ih : ∀ c' : Cn, c'.dep < c.dep → BytC c') : BytC c := by
  intro v w hok hcn hk
  have hp := ok_parts c
  rw [hok] at hp
  have hp' : okN c.op c.n c.kids.length = true ∧ okK c.kids = true := by simpa using hp.symm
  obtain ⟨hop, ho2, ho4, ho5, ho6, hok6, ho0⟩ := okN_op hp'.1
  have hkd := dep_kids c
  have hkc := cnt_kids c
  have hC : ∀ (k : Nat) (h : k < c.kids.length), BytC c.kids[k] := fun k h => ih _ (by have := depK_get c.kids k h; omega)
  have htx := cenc_parts c
  have hnil : c.op < 6 → encS c.kids = [] := fun h => by rw [List.eq_nil_of_length_eq_zero (hok6 h), encS]
  clear ih hp hok
  have hcn2 : cntK c.kids ≤ 100 := by omega
  rcases hop with h | h | h | h | h | h | h | h
  · rw [hnil (by omega), List.append_nil] at htx
    rw [h] at htx ⊢; rw [htx]; exact byt0_any c.n c.kids v w hk
  · rw [hnil (by omega), List.append_nil] at htx
    rw [h] at htx ⊢; rw [htx]; exact byt1_any c.n c.kids v w hk
  · obtain ⟨m, hm⟩ := Int.eq_ofNat_of_zero_le (show 0 ≤ c.n by omega)
    rw [hnil (by omega), List.append_nil] at htx
    rw [h, hm] at htx ⊢; rw [htx]; exact byt2_any m (by omega) c.kids v w hk
  · obtain ⟨m, hm⟩ := Int.eq_ofNat_of_zero_le (show 0 ≤ c.n by omega)
    rw [hnil (by omega), List.append_nil] at htx
    rw [h, hm] at htx ⊢; rw [htx]; exact byt3_any m (by omega) c.kids v w hk
  · obtain ⟨m, hm⟩ := Int.eq_ofNat_of_zero_le (show 0 ≤ c.n by omega)
    rw [hnil (by omega), List.append_nil] at htx
    rw [h, hm] at htx ⊢; rw [htx]; exact byt4_any m (by omega) c.kids v w hk
  · obtain ⟨m, hm⟩ := Int.eq_ofNat_of_zero_le (show 0 ≤ c.n by omega)
    rw [hnil (by omega), List.append_nil] at htx
    rw [h, hm] at htx ⊢; rw [htx]; exact byt5_any m (by omega) c.kids v w hk
  · rw [h] at htx ⊢; rw [htx]; exact byt6_any c.n c.kids hC hp'.2 hcn2 v w hk
  · rw [h] at htx ⊢; rw [htx]; exact byt7_any c.n c.kids hC hp'.2 hcn2 v w hk
theorem byt_any : ∀ (n : Nat) (c : Cn), c.dep < n → BytC c
  | 0, c, h => absurd h (by omega)
  | n + 1, c, h => byt_step c fun c' h' => byt_any n c' (by omega)
end Go.Proofs.YtjkbfogjfgnhiaaDoor
