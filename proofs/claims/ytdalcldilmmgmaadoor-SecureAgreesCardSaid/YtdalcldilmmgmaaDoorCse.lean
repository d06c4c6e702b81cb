/-
  The reference's Same and SameResponse, and alike, at equal commands and responses.
-/
import Derived.Test.YtdalcldilmmgmaaDoorCvh
namespace Go.Proofs.YtdalcldilmmgmaaDoor
set_option linter.unusedVariables false
set_option linter.unusedSimpArgs false
open Go.RowKit

set_option maxRecDepth 100000 in
set_option maxHeartbeats 3200000 in
theorem rsamec_eq (x : Cm) (v u : Value) (w : World) (ha : SL w w.heap.size v x.data) (hb : SL w w.heap.size u x.data) :
    Calls Tryd.prog 31 #[x.val v, x.val u] w fun e w' => e = .returned (.bool true) ∧ Below w.heap.size w w' := by
  have hs := fun W (hW : Below w.heap.size w W) => rsame_any x.data x.data v u W W.heap.size (ha.on hW) (hb.on hW)
  simp only [decide_true] at hs
  obtain ⟨A1, k1, rfl, _⟩ := id ha
  obtain ⟨A2, k2, rfl, _⟩ := id hb
  obtain ⟨cla, ins, p1, p2, data, le, long⟩ := x
  simp only [Cm.val] at *
  generalize hn : data.length = n at *
  have HRW : Hid (Rw w ((w.alloc (Obj.cells #[.int .i64 cla, .int .i64 ins, .int .i64 p1, .int .i64 p2, .slice A1 n k1, .int .i64 le, .bool long] 30)).alloc (Obj.cells #[.int .i64 cla, .int .i64 ins, .int .i64 p1, .int .i64 p2, .slice A2 n k2, .int .i64 le, .bool long] 30)) (Obj.cells #[.int .i64 cla, .int .i64 ins, .int .i64 p1, .int .i64 p2, .slice A1 n k1, .int .i64 le, .bool long] 30) (Obj.cells #[.int .i64 cla, .int .i64 ins, .int .i64 p1, .int .i64 p2, .slice A2 n k2, .int .i64 le, .bool long] 30)) := ⟨heap_alloc2_old .., heap2_new .., alloc2_below ..⟩
  have HS := Lib.hid hs
  clear ha hb hs hn
  obtain ⟨⟨q0, q1, q2, q3, q4, q5, q6⟩, ⟨f0, f1, f2, f3, f4, f5, f6⟩⟩ := cells7 HRW.out.r1
  obtain ⟨⟨t0, t1, t2, t3, t4, t5, t6⟩, ⟨g0, g1, g2, g3, g4, g5, g6⟩⟩ := cells7 HRW.out.r2
  go_enter Tryd.func31, Tryd.ntmps31
  go_wp2_with fail
  refine (HS.out _ HRW.out.b).mono ?_
  rintro e w3 ⟨rfl, nq, rfl⟩
  have hz := (HRW.out.drn nq).b
  go_wp2_with fail
  go_ret
  exact ⟨rfl, hz⟩
set_option maxRecDepth 100000 in
set_option maxHeartbeats 3200000 in
theorem rsamer_eq (x : Rs) (v u : Value) (w : World) (ha : SL w w.heap.size v x.data) (hb : SL w w.heap.size u x.data) :
    Calls Tryd.prog 16 #[x.val v, x.val u] w fun e w' => e = .returned (.bool true) ∧ Below w.heap.size w w' := by
  have hs := fun W (hW : Below w.heap.size w W) => rsame_any x.data x.data v u W W.heap.size (ha.on hW) (hb.on hW)
  simp only [decide_true] at hs
  obtain ⟨A1, k1, rfl, _⟩ := id ha
  obtain ⟨A2, k2, rfl, _⟩ := id hb
  obtain ⟨data, sw⟩ := x
  simp only [Rs.val] at *
  generalize hn : data.length = n at *
  have HRW : Hid (Rw w ((w.alloc (Obj.cells #[.slice A1 n k1, .int .i64 sw] 32)).alloc (Obj.cells #[.slice A2 n k2, .int .i64 sw] 32)) (Obj.cells #[.slice A1 n k1, .int .i64 sw] 32) (Obj.cells #[.slice A2 n k2, .int .i64 sw] 32)) := ⟨heap_alloc2_old .., heap2_new .., alloc2_below ..⟩
  have HS := Lib.hid hs
  clear ha hb hs hn
  obtain ⟨⟨q0, q1⟩, p0, p1⟩ := cells2 HRW.out.r1
  obtain ⟨⟨t0, t1⟩, f0, f1⟩ := cells2 HRW.out.r2
  go_enter Tryd.func16, Tryd.ntmps16
  go_wp2_with fail
  refine (HS.out _ HRW.out.b).mono ?_
  rintro e w3 ⟨rfl, nq, rfl⟩
  have hz := (HRW.out.drn nq).b
  go_wp2_with fail
  go_ret
  exact ⟨rfl, hz⟩
set_option maxRecDepth 100000 in
set_option maxHeartbeats 3200000 in
theorem alike_eq (cla ins p1 p2 : Int) (data : List UInt8) (le : Int) (l1 l2 : Bool) (v u : Value) (w : World) (ha : SL w w.heap.size v data) (hb : SL w w.heap.size u data) :
    Calls Tryd.prog 12 #[(⟨cla, ins, p1, p2, data, le, l1⟩ : Cm).val v, (⟨cla, ins, p1, p2, data, le, l2⟩ : Cm).val u] w fun e w' => e = .returned (.bool true) ∧ Below w.heap.size w w' := by
  obtain ⟨A1, k1, rfl, _⟩ := id ha
  obtain ⟨A2, k2, rfl, _⟩ := id hb
  have hs := fun W (h1 : SL W W.heap.size (.slice A1 data.length k1) data) (h2 : SL W W.heap.size (.slice A2 data.length k2) data) => rsamec_eq ⟨cla, ins, p1, p2, data, le, l2⟩ _ _ W h1 h2
  simp only [Cm.val] at *
  have hrw : Rw w ((w.alloc (Obj.cells #[.int .i64 cla, .int .i64 ins, .int .i64 p1, .int .i64 p2, .slice A1 data.length k1, .int .i64 le, .bool l2] 30)).alloc (Obj.cells #[.int .i64 cla, .int .i64 ins, .int .i64 p1, .int .i64 p2, .slice A2 data.length k2, .int .i64 le, .bool l2] 30)) (Obj.cells #[.int .i64 cla, .int .i64 ins, .int .i64 p1, .int .i64 p2, .slice A1 data.length k1, .int .i64 le, .bool l2] 30) (Obj.cells #[.int .i64 cla, .int .i64 ins, .int .i64 p1, .int .i64 p2, .slice A2 data.length k2, .int .i64 le, .bool l2] 30) := ⟨heap_alloc2_old .., heap2_new .., alloc2_below ..⟩
  have HV := Lib.hid (And.intro (ha.on hrw.b) (hb.on hrw.b))
  have HRW := Lib.hid hrw
  have HS := Lib.hid hs
  clear ha hb hs hrw
  go_enter Tryd.func12, Tryd.ntmps12
  go_wp2_with fail
  refine (HS.out _ HV.out.1 HV.out.2).mono ?_
  rintro e w3 ⟨rfl, hb3⟩
  have hz := (HRW.out.on hb3).b
  go_wp2_with fail
  go_ret
  exact ⟨rfl, hz⟩
end Go.Proofs.YtdalcldilmmgmaaDoor
