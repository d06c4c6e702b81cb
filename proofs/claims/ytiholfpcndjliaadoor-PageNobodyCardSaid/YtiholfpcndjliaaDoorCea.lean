
/-
  A memory: its state, how it lies in memory, what of the world its calls keep. The walks of made, isWord, access.
-/
import Derived.Test.YtiholfpcndjliaaDoorEcp
import Derived.WalkKit
import Derived.Below
import Derived.Deep.Draws
import Derived.Deep.AppendLies
import Derived.Deep.QuietTactic
import Derived.BigQuiet
import Derived.WalkMore
import Derived.Deep.LoopGhost
import Derived.Lib.Hide
import Derived.Laws.CopyOwn
namespace Go.Proofs.YtiholfpcndjliaaDoor
set_option linter.unusedVariables false
set_option linter.unusedSimpArgs false
open Go.RowKit

/-- The state of a memory. -/
structure St where
  ws : List Nat
  wear : List Nat
  en : Nat
  wr : Nat
  cu : Nat
  on : Bool
  cut : Option Nat

/-- The receiver's seven cells. -/
def mrow (g : Nat) (s : St) (lf : Nat) : Array Value :=
  #[.slice (some ⟨g, 0, none⟩) s.ws.length s.ws.length, .int .i64 (s.en : Int), .int .i64 (s.wr : Int), .int .i64 (s.cu : Int), .bool s.on, .bool s.cut.isSome, .int .i64 (lf : Int)]

/-- A memory in the state s, its record in block b, its words in block g. -/
structure MA (w : World) (b g : Nat) (s : St) (lf : Nat) : Prop where
  row : w.heap[b]? = some (.cells (mrow g s lf) 100 (0, 0))
  val : ∀ a, a < s.ws.length → w.cell? ⟨g, a * 2, none⟩ = some (.int .u32 ((s.ws.getD a 0 : Nat) : Int))
  wea : ∀ a, a < s.ws.length → w.cell? ⟨g, a * 2 + 1, none⟩ = some (.int .i64 ((s.wear.getD a 0 : Nat) : Int))
  fz : ∀ j, w.frozen? ⟨g, j, none⟩ = false
  ne : b ≠ g
  ltb : b < w.heap.size
  ltg : g < w.heap.size
  wl : s.wear.length = s.ws.length
  n1 : 1 ≤ s.ws.length
  n2 : s.ws.length ≤ 65536
  lfc : ∀ k, s.cut = some k → lf = k

/-- All but the blocks b and g is kept. -/
structure Kp (b g : Nat) (w w' : World) : Prop where
  os : w'.os = w.os
  tape : w'.tape = w.tape
  output : w'.output = w.output
  size : w.heap.size ≤ w'.heap.size
  block : ∀ k, k < w.heap.size → k ≠ b → k ≠ g → w'.heap[k]? = w.heap[k]?

theorem Kp.refl (b g : Nat) (w : World) : Kp b g w w := ⟨rfl, rfl, rfl, Nat.le_refl _, fun _ _ _ _ => rfl⟩
theorem Kp.trans {b g : Nat} {x y z : World} (h : Kp b g x y) (k : Kp b g y z) : Kp b g x z :=
  ⟨k.os.trans h.os, k.tape.trans h.tape, k.output.trans h.output, Nat.le_trans h.size k.size, fun i hi h1 h2 => (k.block i (Nat.lt_of_lt_of_le hi h.size) h1 h2).trans (h.block i hi h1 h2)⟩
theorem Kp.of_below {b g : Nat} {x y : World} (h : Below x.heap.size x y) : Kp b g x y := ⟨h.os, h.tape, h.output, h.size, fun k hk _ _ => h.block k hk⟩
theorem Kp.drewN (b g : Nat) (w : World) (n : Nat) : Kp b g w (w.drewN n) := ⟨rfl, rfl, rfl, Nat.le_refl _, fun _ _ _ _ => rfl⟩
theorem Kp.set {b g : Nat} {x y : World} (h : Kp b g x y) (p : Addr) (u : Value) (hp : p.block = b ∨ p.block = g) : Kp b g x (y.setCell p u) :=
  h.trans ⟨rfl, rfl, rfl, by simp [World.setCell], fun k hk h1 h2 => Below.heap_setCell _ _ _ _ (by rcases hp with e | e <;> omega)⟩
theorem Kp.cell {b g : Nat} {x y : World} (h : Kp b g x y) {p : Addr} (hp : p.block < x.heap.size) (h1 : p.block ≠ b) (h2 : p.block ≠ g) : y.cell? p = x.cell? p := World.cell?_of_block (w := x) (h.block p.block hp h1 h2)
theorem Kp.frozen {b g : Nat} {x y : World} (h : Kp b g x y) {p : Addr} (hp : p.block < x.heap.size) (h1 : p.block ≠ b) (h2 : p.block ≠ g) : y.frozen? p = x.frozen? p := World.frozen?_of_block (w := x) (h.block p.block hp h1 h2)
/-- Where the two blocks are new, what was there is kept. -/
theorem Kp.below {b g B : Nat} {x y : World} (h : Kp b g x y) (hb : B ≤ b) (hg : B ≤ g) (hs : B ≤ x.heap.size) : Below B x y := ⟨h.os, h.tape, h.output, h.size, fun k hk => h.block k (by omega) (by omega) (by omega)⟩

theorem heap_set_row {w : World} {b i : Nat} {cs : Array Value} {t : TypeId} {u : Value} (h : w.heap[b]? = some (.cells cs t (0, 0))) : (w.setCell ⟨b, i, none⟩ u).heap[b]? = some (.cells (cs.setIfInBounds i u) t (0, 0)) := by
  obtain ⟨hlt, hk⟩ := Array.getElem?_eq_some_iff.1 h
  show (w.heap.modify b _)[b]? = _
  rw [Array.getElem?_eq_getElem (by rw [Array.size_modify]; exact hlt), Array.getElem_modify_self, hk]
  rfl

/-- A memory is kept by all that keeps its two blocks. -/
theorem MA.keep {w w' : World} {b g lf : Nat} {s : St} (h : MA w b g s lf) (h1 : w'.heap[b]? = w.heap[b]?) (h2 : w'.heap[g]? = w.heap[g]?) (hs : w.heap.size ≤ w'.heap.size) : MA w' b g s lf :=
  ⟨h1.trans h.row, fun a ha => (World.cell?_of_block (w := w) h2).trans (h.val a ha), fun a ha => (World.cell?_of_block (w := w) h2).trans (h.wea a ha), fun j => (World.frozen?_of_block (w := w) h2).trans (h.fz j), h.ne, Nat.lt_of_lt_of_le h.ltb hs, Nat.lt_of_lt_of_le h.ltg hs, h.wl, h.n1, h.n2, h.lfc⟩
theorem MA.on {w w' : World} {b g lf : Nat} {s : St} (h : MA w b g s lf) (hb : Below w.heap.size w w') : MA w' b g s lf := h.keep (hb.block b h.ltb) (hb.block g h.ltg) hb.size
theorem MA.drewN {w : World} {b g lf : Nat} {s : St} (h : MA w b g s lf) (n : Nat) : MA (w.drewN n) b g s lf := h.keep rfl rfl (Nat.le_refl _)

/-- A pointer that is nil, or a memory that New has not made. -/
def Dead (w : World) (v : Value) : Prop :=
  v = .pointer none ∨ ∃ b, v = .pointer (some ⟨b, 0, none⟩) ∧ w.heap[b]? = some (.cells #[.slice none 0 0, .int .i64 0, .int .i64 0, .int .i64 0, .bool false, .bool false, .int .i64 0] 100 (0, 0))

theorem made_dead (w : World) (v : Value) (h : Dead w v) : Calls Tryd.prog 59 #[v] w fun e w' => e = .returned (.bool false) ∧ w' = w := by
  rcases h with rfl | ⟨b, rfl, hb⟩
  · go_enter Tryd.func59, Tryd.ntmps59
    go_wp2
    go_ret
    exact ⟨rfl, rfl⟩
  · have c0 := cell_of_row _ _ 0 _ _ _ hb
    go_enter Tryd.func59, Tryd.ntmps59
    go_wp2
    go_ret
    exact ⟨rfl, rfl⟩

theorem made_any {w : World} {b g lf : Nat} {s : St} (h : MA w b g s lf) : Calls Tryd.prog 59 #[.pointer (some ⟨b, 0, none⟩)] w fun e w' => e = .returned (.bool true) ∧ w' = w := by
  have c0 := cell_of_row _ _ 0 _ _ _ h.row
  have n1 := h.n1
  have n2 := h.n2
  clear h
  unfold mrow at c0
  generalize s.ws.length = n at *
  go_enter Tryd.func59, Tryd.ntmps59
  go_wp2
  go_ret
  exact ⟨by simp; omega, rfl⟩
end Go.Proofs.YtiholfpcndjliaaDoor
