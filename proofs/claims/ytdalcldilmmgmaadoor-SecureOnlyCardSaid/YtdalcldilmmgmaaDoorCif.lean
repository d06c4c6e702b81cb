
/-
  The reference's block cipher.
-/
import Derived.Test.YtdalcldilmmgmaaDoorCie
import Derived.Test.YtdalcldilmmgmaaDoorPad
import Derived.Test.YtdalcldilmmgmaaDoorJoi
namespace Go.Proofs.YtdalcldilmmgmaaDoor
set_option linter.unusedVariables false
set_option linter.unusedSimpArgs false
open Go.RowKit

theorem Rd.drop {w : World} {B : Nat} {b o : Nat} {l : List UInt8} (h : Rd w B (some ⟨b, o, none⟩) l) (m : Nat) (hm : m < l.length) : Rd w B (some ⟨b, o + m, none⟩) (l.drop m) := fun _ => by
  obtain ⟨b', o', hA, hb, hc⟩ := h (by omega)
  simp only [Option.some.injEq, Addr.mk.injEq, and_true] at hA
  obtain ⟨rfl, rfl⟩ := hA
  refine ⟨b, o + m, rfl, hb, fun k hk => ?_⟩
  rw [List.length_drop] at hk
  rw [Nat.add_assoc, hc (m + k) (by omega)]
  simp [List.getD]
/-- Four bytes of a slice, as a slice. -/
theorem Rd.four {w : World} {B : Nat} {b o : Nat} {l : List UInt8} (h : Rd w B (some ⟨b, o, none⟩) l) (m c : Nat) (hm : m + 4 ≤ l.length) (hc : l.length ≤ c) (hx : c ≤ maxLen) : SL w B (.slice (some ⟨b, o + m, none⟩) 4 (c - m)) ((l.drop m).take 4) :=
  ⟨some ⟨b, o + m, none⟩, c - m, by rw [List.length_take, List.length_drop, Nat.min_eq_left (by omega)], by simp; omega, by omega, Rd.take (Rd.drop h m (by omega)) 4⟩

theorem rk_walk2 (l : List UInt8) (k : Nat) (hk : k < 16) : (((wd l (k % 4)).toNat : Int) + (k : Int) * 2654435769 % 4294967296) % 4294967296 = ((rk l k).toNat : Int) := by
  rw [← rk_walk l k hk]
  omega
theorem SL.drewN {w : World} {B : Nat} {v : Value} {l : List UInt8} (h : SL w B v l) (n : Nat) : SL (w.drewN n) B v l := h
/-- A contract that only draws, at a world that has drawn. -/
theorem quietN {f : FuncId} {args : Array Value} {w : World} {v : Value} (h : ∀ W, (∃ n, W = w.drewN n) → Calls Tryd.prog f args W fun e w' => e = .returned v ∧ ∃ n, w' = W.drewN n) (n : Nat) : Calls Tryd.prog f args (w.drewN n) fun e w' => e = .returned v ∧ ∃ m, w' = w.drewN m :=
  (h _ ⟨n, rfl⟩).mono fun e w' ⟨he, m, hm⟩ => ⟨he, n + m, by rw [hm, World.drewN_drewN]⟩

theorem ob_lit8 (q1 q2 : UInt32) (w : World) : OB (w.alloc (Obj.cells
        #[Value.int IntKind.u8 (↑q2.toNat / 16777216), Value.int IntKind.u8 (↑q2.toNat / 65536 % 256),
          Value.int IntKind.u8 (↑q2.toNat / 256 % 256), Value.int IntKind.u8 (↑q2.toNat % 256),
          Value.int IntKind.u8 (↑q1.toNat / 16777216), Value.int IntKind.u8 (↑q1.toNat / 65536 % 256),
          Value.int IntKind.u8 (↑q1.toNat / 256 % 256), Value.int IntKind.u8 (↑q1.toNat % 256)] 5)) w.heap.size (.slice (some ⟨w.heap.size, 0, none⟩) 8 8) (outB (q1, q2)) ∧ Below w.heap.size w (w.alloc (Obj.cells
        #[Value.int IntKind.u8 (↑q2.toNat / 16777216), Value.int IntKind.u8 (↑q2.toNat / 65536 % 256),
          Value.int IntKind.u8 (↑q2.toNat / 256 % 256), Value.int IntKind.u8 (↑q2.toNat % 256),
          Value.int IntKind.u8 (↑q1.toNat / 16777216), Value.int IntKind.u8 (↑q1.toNat / 65536 % 256),
          Value.int IntKind.u8 (↑q1.toNat / 256 % 256), Value.int IntKind.u8 (↑q1.toNat % 256)] 5)) := by
  refine ⟨OB.of_cells (Nat.le_refl _) (outB_length _) (by unfold maxLen; omega) ?_, (Below.refl _ _).alloc (Nat.le_refl _) _⟩
  rw [heap_alloc_new]
  unfold outB
  rw [List.map_append, putL4, putL4]
  rfl
/-- What Encrypt and Decrypt give. -/
def encM (k b : List UInt8) : List UInt8 := if fitE k b = 0 then encB k b else []
def decM (k b : List UInt8) : List UInt8 := if fitE k b = 0 then decB k b else []
theorem fit_zero {k b : List UInt8} (h : fitE k b = 0) : k.length = 16 ∧ b.length = 8 := by
  unfold fitE at h
  split at h
  · simp at h
  · split at h
    · simp at h
    · omega
/-- The contract of all four functions. -/
def CiP (r : List UInt8) (E : Int) (w : World) (e : Ending) (w' : World) : Prop := ∃ v', e = .returned (.tuple #[v', .int .i64 E]) ∧ OB w' w.heap.size v' r ∧ Below w.heap.size w w'
theorem penc_any (k b : List UInt8) (v u : Value) (w : World) (hk : SL w w.heap.size v k) (hb : SL w w.heap.size u b) : Calls Tryd.prog 70 #[v, u] w (CiP (encM k b) (fitE k b) w) := by
  by_cases h : fitE k b = 0
  · obtain ⟨h1, h2⟩ := fit_zero h
    rw [encM, if_pos h, h]
    exact penc_ok k b v u w hk hb h1 h2
  · rw [encM, if_neg h]
    exact (penc_err k b v u w hk hb h).mono fun e w' ⟨he, hw⟩ => ⟨_, he, OB.nil _ _, by rw [hw]; exact Below.refl _ _⟩
theorem pdec_any (k b : List UInt8) (v u : Value) (w : World) (hk : SL w w.heap.size v k) (hb : SL w w.heap.size u b) : Calls Tryd.prog 76 #[v, u] w (CiP (decM k b) (fitE k b) w) := by
  by_cases h : fitE k b = 0
  · obtain ⟨h1, h2⟩ := fit_zero h
    rw [decM, if_pos h, h]
    exact pdec_ok k b v u w hk hb h1 h2
  · rw [decM, if_neg h]
    exact (pdec_err k b v u w hk hb h).mono fun e w' ⟨he, hw⟩ => ⟨_, he, OB.nil _ _, by rw [hw]; exact Below.refl _ _⟩
end Go.Proofs.YtdalcldilmmgmaaDoor
