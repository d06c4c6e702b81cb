/-
  Comparisons of two structs: meanings of class bytes, heads of commands.
-/
import Derived.Test.YtjoibonbmalbdaaJna
import Derived.Laws.StructEq
import Derived.ChangeKeysEq
namespace Go.Proofs.Ytjoibonbmalbdaa
set_option linter.unusedVariables false
set_option linter.unusedSimpArgs false
open Go.RowKit

theorem eqF_i {P : Program} {w : World} {d : Nat} {xs ys : Array Value} {f : Field} {fs : List Field} {a b : Int} (hn : f.name ≠ "_") (hp : P.plainKey f.type = true) (hu : P.underlying f.type = some (.int .i64))
    (hx : xs[f.offset]? = some (.int .i64 a)) (hy : ys[f.offset]? = some (.int .i64 b)) : (Op.eqFields (d + 1) xs ys (f :: fs)).run P w = if a = b then (Op.eqFields (d + 1) xs ys fs).run P w else .ok false w := by
  simp only [Op.eqFields, if_pos hn, Sem.run_bind, run_part_plain w hp hx, run_part_plain w hp hy, Result.andThen_ok, run_equalIn_int w d f.type _ _ a b hu]
  by_cases h : a = b
  · subst h; simp
  · have : (a == b) = false := by simpa using h
    simp [h]
theorem eqF_b {P : Program} {w : World} {d : Nat} {xs ys : Array Value} {f : Field} {fs : List Field} {a b : Bool} (hn : f.name ≠ "_") (hp : P.plainKey f.type = true) (hu : P.underlying f.type = some .bool)
    (hx : xs[f.offset]? = some (.bool a)) (hy : ys[f.offset]? = some (.bool b)) : (Op.eqFields (d + 1) xs ys (f :: fs)).run P w = if a = b then (Op.eqFields (d + 1) xs ys fs).run P w else .ok false w := by
  simp only [Op.eqFields, if_pos hn, Sem.run_bind, run_part_plain w hp hx, run_part_plain w hp hy, Result.andThen_ok, run_equalIn_bool' w d f.type a b hu]
  cases a <;> cases b <;> simp
theorem eqF_g {P : Program} {w : World} {d : Nat} {xs ys : Array Value} {f : Field} {fs : List Field} {u v : Value} {q : Bool} (hn : f.name ≠ "_") (hx : (part f.type xs f.offset).run P w = .ok u w) (hy : (part f.type ys f.offset).run P w = .ok v w)
    (he : (Op.equalIn (d + 1) f.type u v).run P w = .ok q w) : (Op.eqFields (d + 1) xs ys (f :: fs)).run P w = if q = true then (Op.eqFields (d + 1) xs ys fs).run P w else .ok false w := by
  simp only [Op.eqFields, if_pos hn, Sem.run_bind, hx, hy, he, Result.andThen_ok]
  cases q <;> simp
theorem pk3 : Try.prog.plainKey 3 = true := by kernel_rfl
theorem pk4 : Try.prog.plainKey 4 = true := by kernel_rfl
theorem eqG83 : Try.prog.eqGuardType Try.prog.depth 83 = false := by kernel_rfl
theorem eqG47 : Try.prog.eqGuardType Try.prog.depth 47 = false := by kernel_rfl
theorem sih83 : Try.prog.stoodInHeld 83 = false := by kernel_rfl
theorem sih47 : Try.prog.stoodInHeld 47 = false := by kernel_rfl
theorem f83 : Try.prog.fieldsOf 83 = #[{ name := "class", type := 47, offset := 0, embedded := false, tag := "", pkgPath := "smartcard/apdu", byteOffset := 0 },
            { name := "ins", type := 3, offset := 4, embedded := false, tag := "", pkgPath := "smartcard/apdu", byteOffset := 16 },
            { name := "p1", type := 3, offset := 5, embedded := false, tag := "", pkgPath := "smartcard/apdu", byteOffset := 24 },
            { name := "p2", type := 3, offset := 6, embedded := false, tag := "", pkgPath := "smartcard/apdu", byteOffset := 32 }] := by
  unfold Program.fieldsOf
  rw [Try.underlying83]
theorem f47 : Try.prog.fieldsOf 47 = #[{ name := "Channel", type := 3, offset := 0, embedded := false, tag := "", pkgPath := "", byteOffset := 0 },
            { name := "Secure", type := 4, offset := 1, embedded := false, tag := "", pkgPath := "", byteOffset := 8 },
            { name := "Chained", type := 4, offset := 2, embedded := false, tag := "", pkgPath := "", byteOffset := 9 },
            { name := "Proprietary", type := 4, offset := 3, embedded := false, tag := "", pkgPath := "", byteOffset := 10 }] := by
  unfold Program.fieldsOf
  rw [Try.underlying47]
theorem part47 (a : Int) (b c d : Bool) (x y z : Int) (W : World) : (part 47 #[.int .i64 a, .bool b, .bool c, .bool d, .int .i64 x, .int .i64 y, .int .i64 z] 0).run Try.prog W = .ok (.agg #[.int .i64 a, .bool b, .bool c, .bool d]) W := by kernel_rfl
theorem eqF_nil (P : Program) (w : World) (n : Nat) (xs ys : Array Value) : (Op.eqFields n xs ys []).run P w = .ok true w := rfl

set_option maxRecDepth 100000 in
theorem eqI47 (D : Nat) (a a' : Int) (b c d b' c' d' : Bool) (W : World) : (Op.equalIn (D + 2) 47 (.agg #[.int .i64 a, .bool b, .bool c, .bool d]) (.agg #[.int .i64 a', .bool b', .bool c', .bool d'])).run Try.prog W = .ok (decide (a = a') && decide (b = b') && decide (c = c') && decide (d = d')) W := by
  have u47 := Try.underlying47
  rw [← f47] at u47
  have e := run_equalIn_agg W (D + 1) 47 #[.int .i64 a, .bool b, .bool c, .bool d] #[.int .i64 a', .bool b', .bool c', .bool d'] u47 sih47
  rw [f47] at e
  have u3 := Try.underlying3
  have u4 := Try.underlying4
  have e2 := e.trans (eqF_i (d := D) (a := a) (b := a') (by decide) pk3 u3 rfl rfl)
  rw [eqF_b (d := D) (a := b) (b := b') (by decide) pk4 u4 rfl rfl, eqF_b (d := D) (a := c) (b := c') (by decide) pk4 u4 rfl rfl, eqF_b (d := D) (a := d) (b := d') (by decide) pk4 u4 rfl rfl, eqF_nil] at e2
  rw [e2]
  by_cases h1 : a = a'
  · by_cases h2 : b = b'
    · by_cases h3 : c = c'
      · by_cases h4 : d = d'
        · rw [if_pos h1, if_pos h2, if_pos h3, if_pos h4, decide_eq_true h1, decide_eq_true h2, decide_eq_true h3, decide_eq_true h4]; rfl
        · rw [if_pos h1, if_pos h2, if_pos h3, if_neg h4, decide_eq_true h1, decide_eq_true h2, decide_eq_true h3, decide_eq_false h4]; rfl
      · rw [if_pos h1, if_pos h2, if_neg h3, decide_eq_true h1, decide_eq_true h2, decide_eq_false h3]; rfl
    · rw [if_pos h1, if_neg h2, decide_eq_true h1, decide_eq_false h2]; rfl
  · rw [if_neg h1, decide_eq_false h1]; rfl
set_option maxRecDepth 100000 in
theorem eqI83 (a a' : Int) (b c d b' c' d' : Bool) (x y z x' y' z' : Int) (W : World) : (Op.equalIn 10000 83 (.agg #[.int .i64 a, .bool b, .bool c, .bool d, .int .i64 x, .int .i64 y, .int .i64 z]) (.agg #[.int .i64 a', .bool b', .bool c', .bool d', .int .i64 x', .int .i64 y', .int .i64 z'])).run Try.prog W = .ok ((decide (a = a') && decide (b = b') && decide (c = c') && decide (d = d')) && decide (x = x') && decide (y = y') && decide (z = z')) W := by
  have u83 := Try.underlying83
  rw [← f83] at u83
  have e := run_equalIn_agg W 9999 83 #[.int .i64 a, .bool b, .bool c, .bool d, .int .i64 x, .int .i64 y, .int .i64 z] #[.int .i64 a', .bool b', .bool c', .bool d', .int .i64 x', .int .i64 y', .int .i64 z'] u83 sih83
  rw [f83] at e
  have u3 := Try.underlying3
  have e2 := e.trans (eqF_g (d := 9998) (by decide) (part47 a b c d x y z W) (part47 a' b' c' d' x' y' z' W) (eqI47 9997 a a' b c d b' c' d' W))
  rw [eqF_i (d := 9998) (a := x) (b := x') (by decide) pk3 u3 rfl rfl, eqF_i (d := 9998) (a := y) (b := y') (by decide) pk3 u3 rfl rfl, eqF_i (d := 9998) (a := z) (b := z') (by decide) pk3 u3 rfl rfl, eqF_nil] at e2
  rw [e2]
  cases decide (a = a') && decide (b = b') && decide (c = c') && decide (d = d')
  · rfl
  · rw [if_pos rfl]
    by_cases h2 : x = x'
    · by_cases h3 : y = y'
      · by_cases h4 : z = z'
        · rw [if_pos h2, if_pos h3, if_pos h4, decide_eq_true h2, decide_eq_true h3, decide_eq_true h4]; rfl
        · rw [if_pos h2, if_pos h3, if_neg h4, decide_eq_true h2, decide_eq_true h3, decide_eq_false h4]; rfl
      · rw [if_pos h2, if_neg h3, decide_eq_true h2, decide_eq_false h3]; rfl
    · rw [if_neg h2, decide_eq_false h2]; rfl
theorem neq83_run (a a' : Int) (b c d b' c' d' : Bool) (x y z x' y' z' : Int) (W : World) : Sem.run Try.prog (binOp .neq 83 (.agg #[.int .i64 a, .bool b, .bool c, .bool d, .int .i64 x, .int .i64 y, .int .i64 z]) (.agg #[.int .i64 a', .bool b', .bool c', .bool d', .int .i64 x', .int .i64 y', .int .i64 z'])) W = .ok (.bool (!((decide (a = a') && decide (b = b') && decide (c = c') && decide (d = d')) && decide (x = x') && decide (y = y') && decide (z = z')))) W := by
  rw [run_neq_struct, eqI83]; rfl
theorem neq47_run (a a' : Int) (b c d b' c' d' : Bool) (W : World) : Sem.run Try.prog (binOp .neq 47 (.agg #[.int .i64 a, .bool b, .bool c, .bool d]) (.agg #[.int .i64 a', .bool b', .bool c', .bool d'])) W = .ok (.bool (!(decide (a = a') && decide (b = b') && decide (c = c') && decide (d = d')))) W := by
  rw [run_neq_struct, eqI47]; rfl
end Go.Proofs.Ytjoibonbmalbdaa
