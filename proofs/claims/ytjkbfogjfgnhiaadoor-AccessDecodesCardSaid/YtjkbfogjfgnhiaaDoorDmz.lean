
/-
  What the decoding of layer 2 leans on.
-/
import Derived.Test.YtjkbfogjfgnhiaaDoorDmy
import Derived.Deep.RegionHeld3
import Derived.Deep.Slices
import Derived.Deep.Strs
import Derived.OpenShut
namespace Go.Proofs.YtjkbfogjfgnhiaaDoor
set_option linter.unusedVariables false
set_option linter.unusedSimpArgs false
open Go.RowKit
theorem ret2_int {j k : IntKind} {a b c d : Int} (h : a = b) (g : c = d) : Ending.returned (.tuple #[.int j a, .int k c]) = .returned (.tuple #[.int j b, .int k d]) := by rw [h, g]

theorem wrap_u64 (n : Nat) (h : n < 18446744073709551616) : IntKind.u64.wrap (n : Int) = n := by
  simp only [IntKind.wrap, IntKind.bits, IntKind.signed]
  simp
  omega
theorem or_step (n : Nat) (x : UInt8) (h : n < 72057594037927936) :
    bits .or .u64 (IntKind.u64.wrap ((n : Int) * 256)) (IntKind.u64.wrap (x.toNat : Int)) = ((n * 256 + x.toNat : Nat) : Int) := by
  have hx := x.toNat_lt
  have e1 : ((n : Int) * 256) = ((n * 256 : Nat) : Int) := by omega
  rw [e1, wrap_u64 _ (by omega), wrap_u64 _ (by omega), u64_or_nat _ _ (by omega) (by omega), nat_join 8 (n * 256) x.toNat (by omega) (by omega)]

set_option maxRecDepth 100000 in
set_option maxHeartbeats 800000 in
theorem pget_any (a : List UInt8) (v : Value) (w : World) (B : Nat) (ha : SL w B v a) :
    Calls Tryd.prog 112 #[v] w fun e w' => e = .returned (.tuple #[.int .i64 (getN a), .int .i64 (getE a)]) ∧ w = w' := by
  obtain ⟨A1, c1, rfl, h11, h12, h13⟩ := ha
  unfold maxLen at h12
  by_cases h8 : 8 < a.length
  · go_enter Tryd.func112, Tryd.ntmps112
    go_wp2
    go_ret2
    exact ⟨ret2_int (by rw [getN, if_pos h8]) (by rw [getE, if_pos h8]), rfl⟩
  · by_cases hb : bigN < numL a
    all_goals
      go_enter Tryd.func112, Tryd.ntmps112
      go_wp2
      go_loop [4, 12] (fun n i => ∃ k : Nat, k ≤ a.length ∧ i = .int .i64 k ∧ n = .int .u64 (numL (a.take k))) (fun _ i => a.length - (intOf i).toNat)
      case atStart => exact ⟨0, Nat.zero_le _, rfl, rfl⟩
      case round =>
        obtain ⟨k, hk, rfl, rfl⟩ := hrel
        by_cases h1 : k < a.length
        · obtain ⟨b1, o1, rfl, hb1, hc1⟩ := h13 (by omega)
          have g1 := hc1 k h1
          have hr := Lib.hid (numL_room a k h1 (by omega))
          go_wp2
          go_round
          case rel => exact ⟨k + 1, by omega, by go_num, by rw [numL_take a k h1, gd h1, or_step _ _ hr.out]⟩
          case measure => simp [intOf]; omega
        · have hk : k = a.length := by omega
          subst hk
          have hb' := hb
          unfold bigN at hb'
          go_wp2
          go_ret2
          first
            | exact ⟨ret2_int (by rw [getN, if_neg h8, if_pos hb]) (by rw [getE, if_neg h8, if_pos hb]), rfl⟩
            | exact ⟨ret2_int (by rw [getN, if_neg h8, if_neg hb]) (by rw [getE, if_neg h8, if_neg hb]), rfl⟩

theorem OB.more {w : World} {base base' : Nat} {v : Value} {l : List UInt8} (h : OB w base v l) (hb : base' ≤ base) : OB w base' v l := by
  obtain ⟨h1, h2⟩ := h
  refine ⟨h1, ?_⟩
  rcases h2 with h2 | ⟨g, cap, cur, hv, hg, r⟩
  · exact .inl h2
  · exact .inr ⟨g, cap, cur, hv, by omega, r⟩
theorem SL.drop {w : World} {B : Nat} {b o : Nat} {l : List UInt8} (h : Rd w B (some ⟨b, o, none⟩) l) (m : Nat) (hm : m < l.length) : Rd w B (some ⟨b, o + m, none⟩) (l.drop m) := fun _ => by
  obtain ⟨b', o', hA, hb, hc⟩ := h (by omega)
  simp only [Option.some.injEq, Addr.mk.injEq, and_true] at hA
  obtain ⟨rfl, rfl⟩ := hA
  refine ⟨b, o + m, rfl, hb, fun k hk => ?_⟩
  rw [List.length_drop] at hk
  rw [Nat.add_assoc, hc (m + k) (by omega)]
  simp [List.getD, List.getElem?_drop]

theorem results_cell3 {P : Program} {fn : Func} {p u v : Tmp} {ty : TypeId} (h : fn.results = #[.cell p ty, .tmp u, .tmp v]) (tmps : Array Value) (w : World) (g : Nat) (t : TypeId) (cs : Array Value) (fr : Nat × Nat) (d : TypeDesc)
    (hp : tmps.getD p undef = .pointer (some ⟨g, 0, none⟩)) (hg : w.heap[g]? = some (.cells cs t fr))
    (hu : P.underlying ty = some d) (hd : (match d with | .struct _ | .array _ _ => true | _ => false) = true) (hi : (P.info? ty).map (·.size) = some cs.size) :
    (results fn tmps).run P w = .ok (.tuple #[.agg cs, tmps.getD u undef, tmps.getD v undef]) w := by
  have hp' : tmps[p]?.getD undef = .pointer (some ⟨g, 0, none⟩) := by simpa using hp
  simp [results, h, hp', asAddr, run_loadVar_row w g t ty cs fr d hg hu hd hi]
theorem row3_set (w : World) (g : Nat) (ty : TypeId) (a b c x y z : Value) (hg : w.heap[g]? = some (.cells #[a, b, c] ty (0, 0))) :
    (((w.setCell ⟨g, 0, none⟩ x).setCell ⟨g, 1, none⟩ y).setCell ⟨g, 2, none⟩ z).heap[g]? = some (.cells #[x, y, z] ty (0, 0)) := by
  have h1 := heap_setCell_same w g 0 _ ty x hg
  have h2 := heap_setCell_same _ g 1 _ ty y h1
  have h3 := heap_setCell_same _ g 2 _ ty z h2
  rw [h3]
  simp
theorem c58 : Tryd.prog.cellsOf 70 = 3 := by kernel_rfl
theorem c48 : Tryd.prog.cellsOf 67 = 1 := by kernel_rfl
theorem tok_parts (d : Int) (t : T) : t.ok d = (decide (d ≤ 8) && objOk t && okL (d + 1) t.kids) := by cases t; simp [T.ok, T.kids]
theorem TL.nil (w : World) (B c : Nat) (A : Option Addr) (hc : c ≤ maxLen) : TL w B (.slice A 0 c) [] := ⟨A, c, rfl, Nat.zero_le _, hc, fun hp => absurd hp (by simp)⟩

def wX (w : World) : Obj := .cells #[.int .i64 132, .slice (some ⟨w.heap.size, 0, none⟩) 2 2, .slice none 0 0] 70
def wL (w : World) : Obj := .cells #[.int .i64 111, .slice none 0 0, .slice (some ⟨w.heap.size + 1 + 1, 0, none⟩) 1 1] 70
def w5 (w : World) : World := ((((w.alloc (.cells #[.int .u8 160, .int .u8 1] 5)).alloc (wX w)).alloc (wX w)).alloc (wL w)).alloc (wX w)
theorem info58z : (Tryd.prog.info? 70).map (fun i => (i.zero, i.size, i.bytes)) = some (some (.agg #[.int .i64 0, .slice none 0 0, .slice none 0 0]), 3, 56) := by kernel_rfl
/-- What the cells of a list of data objects hold; all that they lead to lies below block B. -/
inductive Dso (w : World) (B : Nat) : List Value → List T → Prop
  | nil : Dso w B [] []
  | cons {a b c : Value} {cs : List Value} {t : T} {ts : List T} (h1 : a = .int .i64 t.tag) (h2 : SL w B b t.val) (h3 : TL w B c t.kids) (h : Dso w B cs ts) : Dso w B (a :: b :: c :: cs) (t :: ts)
theorem Dso.len {w : World} {B : Nat} {cs : List Value} {ts : List T} (h : Dso w B cs ts) : cs.length = ts.length * 3 := by
  induction h with
  | nil => rfl
  | cons h1 h2 h3 h ih => simp only [List.length_cons, ih]; omega
theorem Dso.app {w : World} {B : Nat} {cs ds : List Value} {ts us : List T} (h : Dso w B cs ts) (g : Dso w B ds us) : Dso w B (cs ++ ds) (ts ++ us) := by
  induction h with
  | nil => exact g
  | cons h1 h2 h3 h ih => exact .cons h1 h2 h3 ih
theorem Dso.more {w : World} {B B' : Nat} {cs : List Value} {ts : List T} (h : Dso w B cs ts) (hB : B ≤ B') : Dso w B' cs ts := by
  induction h with
  | nil => exact .nil
  | cons h1 h2 h3 h ih => exact .cons h1 (h2.more hB) (h3.keep hB fun _ _ => rfl) ih
theorem Dso.one {w : World} {B : Nat} {cs : List Value} {ts : List T} (h : Dso w B cs ts) : ∀ u ∈ cs, u.oneCell' = true := by
  induction h with
  | nil => simp
  | cons h1 h2 h3 h ih =>
    intro u hu
    simp only [List.mem_cons] at hu
    rcases hu with rfl | rfl | rfl | hu
    · rw [h1]; rfl
    · obtain ⟨A, c, rfl, _⟩ := h2; rfl
    · obtain ⟨A, c, rfl, _⟩ := h3; rfl
    · exact ih u hu
theorem Dso.tsAt {w : World} {B b : Nat} {cs : List Value} {ts : List T} (h : Dso w B cs ts) : ∀ (o : Nat), (∀ j u, cs[j]? = some u → w.cell? ⟨b, o + j, none⟩ = some u) → TsAt w B b o ts := by
  induction h with
  | nil => intro o _; unfold TsAt; trivial
  | cons h1 h2 h3 h ih =>
    intro o hc
    unfold TsAt
    refine ⟨TAt.make ?_ ⟨_, hc 1 _ rfl, h2⟩ ⟨_, hc 2 _ rfl, h3⟩, ih (o + 3) fun j u hu => ?_⟩
    · rw [← h1]; exact hc 0 _ rfl
    · rw [show o + 3 + j = o + (j + 3) by omega]; exact hc (j + 3) u hu
/-- An own row of data objects, what they lead to lying below the row. -/
def OZ (w : World) (base : Nat) (v : Value) (ts : List T) : Prop := ∃ cs : List Value, w.ownsRow base 70 3 v ts.length cs ∧ Dso w base cs ts
theorem OZ.nil (w : World) (base : Nat) : OZ w base (.slice none 0 0) [] := ⟨[], World.ownsRow_nil .., .nil⟩
theorem OZ.value {w : World} {base : Nat} {v : Value} {ts : List T} (h : OZ w base v ts) : ∃ A c, v = .slice A ts.length c := by
  obtain ⟨cs, h, _⟩ := h
  rcases h.2 with ⟨rfl, h0⟩ | ⟨g, cap, cur, rfl, _⟩
  · exact ⟨none, 0, by rw [h0]⟩
  · exact ⟨_, _, rfl⟩
theorem OZ.tl {w : World} {base : Nat} {v : Value} {ts : List T} (h : OZ w base v ts) (hbase : base ≤ w.heap.size) : TL w w.heap.size v ts := by
  obtain ⟨cs, h, hd⟩ := h
  rcases id h.2 with ⟨rfl, h0⟩ | ⟨g, cap, cur, rfl, hb, hg, hn, hm, hs, ht⟩
  · exact ⟨none, 0, by rw [h0], by omega, Nat.zero_le _, fun hp => absurd hp (by omega)⟩
  · refine ⟨some ⟨g, 0, none⟩, cap, rfl, hn, hm, fun _ => ⟨g, 0, rfl, ?_, ?_⟩⟩
    · rcases Nat.lt_or_ge g w.heap.size with hlt | hge
      · exact hlt
      · rw [Array.getElem?_eq_none hge] at hg; cases hg
    · refine (hd.more hbase).tsAt 0 fun j u hu => ?_
      · have hj := (List.getElem?_eq_some_iff.1 hu).1
        have hl := hd.len
        have := (World.ownsRow.cellAt (w := w) (base := base) (e := 70) (size := 3) (g := g) (n := ts.length) (cap := cap) (xs := cs) h j (by omega)).trans hu
        rw [Nat.zero_add]
        exact this

theorem OZ.ltB {w : World} {base : Nat} {v : Value} {ts : List T} (h : OZ w base v ts) : ∀ b, v.ownBlock = some b → base ≤ b ∧ b < w.heap.size := by
  obtain ⟨cs, h, _⟩ := h
  exact fun b hb => h.lt b hb
end Go.Proofs.YtjkbfogjfgnhiaaDoor
